/-
  Texts of one proof, one behind the other.
-/
import Derived.Deep.QuietTactic
import Derived.BigQuiet
import Derived.RegionTactic
import Derived.Deep.RegionHeld3
import Derived.Lib.AppendStr
import Derived.Test.YtppliiingoonlaaGreatDoorShelf
import Derived.OwnWalk
import Derived.Maps.AppendAt
import Derived.OneCell
import Derived.Test.YtppliiingoonlaaGreatDoorRows
import Derived.WalkKit
import Derived.ChangeSame
import Derived.Lib.SmallJoins
import Derived.Below
import Derived.Deep.RegionWith
import Derived.Test.YtppliiingoonlaaGreatDoorQaP1
import Derived.Test.YtppliiingoonlaaGreatDoorQaP2
import Derived.Test.YtppliiingoonlaaGreatDoorQaP3
import Derived.Test.YtppliiingoonlaaGreatDoorQaP4
import Derived.Test.YtppliiingoonlaaGreatDoorQaP8
import Derived.Test.YtppliiingoonlaaGreatDoorQaP9

/-
  What the laws' own markText answers.
-/
namespace Go.Proofs.YtppliiingoonlaaGreatDoor
open Go.RowKit
theorem below_drewN {B : Nat} {a w : World} (h : Below B a w) (n : Nat) : Below B a (w.drewN n) := ⟨h.os, h.tape, h.output, h.size, h.block⟩

/-- What markText makes of a number. -/
def markB (k : Nat) : List UInt8 := 109 :: Lib.decDigits k

set_option maxHeartbeats 400000 in
theorem markText_any (n : Nat) (w : World) (h0 : 0 < n) (h1 : n ≤ 9223372036854775807) :
    Calls Tryz.prog 146 #[.int .i64 n] w fun e w' => e = .returned (.string ⟨(markB n).toArray⟩) ∧ Below w.heap.size w w' := by
  have e2 : decide ((n : Int) ≤ 0) = false := by simp; omega
  go_enter Tryz.func146, Tryz.ntmps146
  go_wp2
  go_loopw [0, 3] (fun m o wr => ∃ (k : Nat) (L : List UInt8), m = .int .i64 k ∧ o = .string ⟨L.toArray⟩ ∧ k ≤ n ∧ FmtRel n k L ∧ Below w.heap.size w wr) (fun m _ _ => (intOf m).toNat)
  case atStart => exact ⟨n, [], rfl, rfl, Nat.le_refl _, FmtRel.start h0, Below.refl _ _⟩
  case round =>
    obtain ⟨k, L, rfl, rfl, hkn, hrel, hb⟩ := hrel
    have hlen := hrel.len h1
    by_cases hk : 0 < k
    · have hcv := conv_one wr (48 + (k : Int) % 10) (dgt k) (digit_cell k)
      go_wp2
      all_goals
        go_roundw
        case rel => exact ⟨k / 10, dgt k :: L, by go_num, congrArg Value.string (str_cons _ _), by omega, hrel.step hk, hb.alloc hb.size _⟩
        case measure => simp [intOf]; omega
    · obtain rfl : k = 0 := by omega
      go_wp2
      go_ret
      exact ⟨by unfold markB; rw [← hrel.1 rfl]; exact congrArg (fun s => Ending.returned (Value.string s)) (str_cons _ _), hb⟩

/-- markText, and a cell of an old block. -/
theorem markText_cell (n : Nat) (w0 w : World) (a : Addr) (v : Value) (h0 : 0 < n) (h1 : n ≤ 9223372036854775807) (hb : Below w0.heap.size w0 w) (ha : a.block < w0.heap.size) (hc : w.cell? a = some v) :
    Calls Tryz.prog 146 #[.int .i64 n] w fun e w' => e = .returned (.string ⟨(markB n).toArray⟩) ∧ w'.cell? a = some v ∧ Below w0.heap.size w0 w' :=
  (markText_any n w h0 h1).mono fun _ _ ⟨he, h⟩ => ⟨he, (h.cell (Nat.lt_of_lt_of_le ha hb.size)).trans hc, hb.trans (h.mono hb.size)⟩

end Go.Proofs.YtppliiingoonlaaGreatDoor

/-
  What the laws' own helpers answer over slices of strings that lie in rows of their own: eqStringS, markText, markStringS, heldStringS.
-/
namespace Go.Proofs.YtppliiingoonlaaGreatDoor
open Go.RowKit
set_option maxHeartbeats 400000 in

/-- The marks k0, k0 + 1, .. as a row's cells. -/
def marks (k0 : Nat) : Nat → List (List UInt8)
  | 0 => []
  | n + 1 => marks k0 n ++ [markB (k0 + n)]
theorem marks_length (k0 : Nat) : ∀ n, (marks k0 n).length = n
  | 0 => rfl
  | n + 1 => by simp [marks, marks_length k0 n]
theorem marks_at (k0 : Nat) : ∀ n j, j < n → (marks k0 n)[j]? = some (markB (k0 + j))
  | 0, j, h => by omega
  | n + 1, j, h => by
    unfold marks
    by_cases hj : j < n
    · rw [List.getElem?_append_left (by rw [marks_length]; exact hj)]
      exact marks_at k0 n j hj
    · have e : j = n := by omega
      subst e
      rw [List.getElem?_append_right (by rw [marks_length]; exact Nat.le_refl _), marks_length]
      simp


/-- One cell more is marked. -/
theorem mark_step {w wr w1 : World} {g n c B k0 j : Nat} {xs : List Value} (hj : j < n) (hxs : xs.length = n)
    (hown : wr.ownsRow B 9 1 (.slice (some ⟨g, 0, none⟩) n c) n (strs (marks k0 j) ++ xs.drop j)) (hg : w.grownBy wr (some g)) (hb1 : Below wr.heap.size wr w1) :
    (w1.setCell ⟨g, j, none⟩ (.string ⟨(markB (k0 + j)).toArray⟩)).ownsRow B 9 1 (.slice (some ⟨g, 0, none⟩) n c) n (strs (marks k0 (j + 1)) ++ xs.drop (j + 1)) ∧
    w.grownBy (w1.setCell ⟨g, j, none⟩ (.string ⟨(markB (k0 + j)).toArray⟩)) (some g) := by
  have h1 := hown.kept (grown_of_below hb1 none) (.inr (by simp [Value.ownBlock]))
  obtain ⟨h2, h3⟩ := h1.stored j (.string ⟨(markB (k0 + j)).toArray⟩)
  refine ⟨?_, grown_trans (grown_trans hg (grown_of_below hb1 (some g))) h3⟩
  have e : (strs (marks k0 j) ++ xs.drop j).set j (.string ⟨(markB (k0 + j)).toArray⟩) = strs (marks k0 (j + 1)) ++ xs.drop (j + 1) := by
    have hl : (strs (marks k0 j)).length = j := by rw [strs_length, marks_length]
    have hd : xs.drop j = xs[j]'(by omega) :: xs.drop (j + 1) := List.drop_eq_getElem_cons (by omega : j < xs.length)
    rw [List.set_append_right _ _ (by omega), hl, Nat.sub_self, hd, List.set_cons_zero]
    simp [marks, strs]
  rw [e] at h2
  exact h2

end Go.Proofs.YtppliiingoonlaaGreatDoor

/-
  Slices of strings in old memory; a row of the call's own lies in blocks that are there.
-/
namespace Go.Proofs.YtppliiingoonlaaGreatDoor
open Go.RowKit
theorem own_lt {w : World} {B : Nat} {e : TypeId} {size n g c : Nat} {xs : List Value} (h : w.ownsRow B e size (.slice (some ⟨g, 0, none⟩) n c) n xs) : B ≤ g ∧ g < w.heap.size := h.lt g (by simp [Value.ownBlock])
/-- A slice of strings in old memory: its elements, one by one. -/
def SL (w : World) (B : Nat) (A : Option Addr) (n : Nat) (ps : List (List UInt8)) : Prop :=
  ps.length = n ∧ ∀ k p, ps[k]? = some p → ∃ ad, A = some ad ∧ ad.block < B ∧ w.cell? (ad.add k) = some (.string ⟨p.toArray⟩)
theorem sls_block (a : Addr) (n : Nat) : (a.add n).block = a.block := by unfold Addr.add; split <;> rfl
theorem SL.below {w w' : World} {B : Nat} {A : Option Addr} {n : Nat} {ps : List (List UInt8)} (h : SL w B A n ps) (hb : Below B w w') : SL w' B A n ps :=
  ⟨h.1, fun k p hk => by
    obtain ⟨ad, e, hlt, hc⟩ := h.2 k p hk
    exact ⟨ad, e, hlt, (hb.cell (by rw [sls_block]; exact hlt)).trans hc⟩⟩
theorem SL.bytes {w : World} {B : Nat} {A : Option Addr} {n : Nat} {ps : List (List UInt8)} (h : SL w B A n ps) : ps.length = n := h.1
end Go.Proofs.YtppliiingoonlaaGreatDoor

/-
  What the laws' own helpers answer over a slice of strings that came in: szStringS (how much is left), toStringS (a copy in a row of its own).
-/
namespace Go.Proofs.YtppliiingoonlaaGreatDoor
open Go.RowKit
/-- A copy under way: what is laid, and zeros behind it. -/
def copied (ps : List (List UInt8)) (k : Nat) : List Value := strs (ps.take k) ++ (List.replicate ps.length (Value.string ⟨#[]⟩)).drop k
theorem copied_step {ps : List (List UInt8)} {k : Nat} {p : List UInt8} (h : ps[k]? = some p) : (copied ps k).set k (.string ⟨p.toArray⟩) = copied ps (k + 1) := by
  have hk : k < ps.length := (List.getElem?_eq_some_iff.1 h).1
  have hl : (strs (ps.take k)).length = k := by rw [strs_length, List.length_take]; omega
  have hd : (List.replicate ps.length (Value.string ⟨#[]⟩)).drop k = Value.string ⟨#[]⟩ :: (List.replicate ps.length (Value.string ⟨#[]⟩)).drop (k + 1) := by
    rw [List.drop_eq_getElem_cons (by simpa using hk)]
    simp
  unfold copied
  rw [List.set_append_right _ _ (by omega), hl, Nat.sub_self, hd, List.set_cons_zero, List.take_add_one, h]
  simp [strs]
theorem copied_all (ps : List (List UInt8)) : copied ps ps.length = strs ps := by
  unfold copied
  rw [List.take_of_length_le (Nat.le_refl _), List.drop_eq_nil_of_le (by simp), List.append_nil]

/-- A copy in a row of its own: as SplPost, the slice never nil. -/
def CopyPost (ps : List (List UInt8)) (w : World) (e : Ending) (w' : World) : Prop :=
  ∃ g c, e = .returned (.slice (some ⟨g, 0, none⟩) ps.length c) ∧ w'.ownsRow w.heap.size 9 1 (.slice (some ⟨g, 0, none⟩) ps.length c) ps.length (strs ps) ∧ Below w.heap.size w w'

end Go.Proofs.YtppliiingoonlaaGreatDoor

/-
  What spec.Join and impl.Join answer over a slice of strings in old memory, where the strings are together at most 2^20 bytes long and the separator is no longer: the joined bytes, none where they are too many. Behind the call nothing that was there has turned.
-/
namespace Go.Proofs.YtppliiingoonlaaGreatDoor
open Go.RowKit
/-- Bytes as a row's cells. -/
def byts (l : List UInt8) : List Value := l.map fun b => Value.int .u8 b.toNat
theorem byteInfo : (Tryz.prog.info? 5).map (fun i => (i.zero, i.size, i.bytes)) = some (some (.int .u8 0), 1, 1) := by kernel_rfl
theorem strCells_eq (s : ByteArray) : Lib.strCells s = byts s.data.toList := rfl
theorem byts_append (a b : List UInt8) : byts (a ++ b) = byts a ++ byts b := by simp [byts]
theorem byts_length (a : List UInt8) : (byts a).length = a.length := by simp [byts]

/-- string(b) of a row of the call's own. -/
theorem conv_own (w : World) (B g n c : Nat) (l : List UInt8) (hl : l.length = n) (hown : w.ownsRow B 5 1 (.slice (some ⟨g, 0, none⟩) n c) n (byts l)) :
    (convert 22 9 (.slice (some ⟨g, 0, none⟩) n c)).run Tryz.prog w = .ok (.string ⟨l.toArray⟩) w := by
  subst hl
  refine run_convert_bytes_back (P := Tryz.prog) w 22 9 5 ⟨g, 0, none⟩ c l Tryz.underlying22 Tryz.underlying5 Tryz.underlying9 (fun j hj => ?_)
  have h := hown.cellAt j (by omega)
  have e : ((⟨g, 0, none⟩ : Addr).add j) = ⟨g, j, none⟩ := by unfold Addr.add; split <;> simp_all
  rw [e, h]
  simp [byts, hj]

/-- One text more behind what a row of the call's own holds. -/
theorem grow_byts {wr w1 w : World} {B : Nat} {v v' : Value} {L p : List UInt8} {x : ByteArray} (hx : x.data.toList = p) (hown : wr.ownsRow B 5 1 v L.length (byts L)) (hb : Below B w wr) (hB : B ≤ wr.heap.size)
    (hown' : w1.ownsRow B 5 1 v' (L.length + x.size) (byts L ++ Lib.strCells x)) (hg : wr.grownBy w1 v.ownBlock) :
    w1.ownsRow B 5 1 v' (L ++ p).length (byts (L ++ p)) ∧ Below B w w1 := by
  have hs : x.size = p.length := by rw [← hx]; simp
  refine ⟨?_, hb.grown hg hB (fun k hk => (hown.lt k hk).1)⟩
  rw [strCells_eq, hx, hs] at hown'
  rw [byts_append, List.length_append]
  exact hown'

def JoinPost (l : List UInt8) (w : World) (e : Ending) (w' : World) : Prop := e = .returned (.string ⟨l.toArray⟩) ∧ Below w.heap.size w w'

end Go.Proofs.YtppliiingoonlaaGreatDoor

/-
  What strings.Join answers over a row of the call's own.
-/
namespace Go.Proofs.YtppliiingoonlaaGreatDoor
open Go.RowKit
/-- strings.Join over a row of the call's own. -/
theorem libJoin_any (g c B : Nat) (ps : List (List UInt8)) (sep : ByteArray) (w : World) (hown : w.ownsRow B 9 1 (.slice (some ⟨g, 0, none⟩) ps.length c) ps.length (strs ps)) (hn : ps.length ≤ 1048576) (hq : (Lib.join ps sep.data.toList).length ≤ 1048576) :
    Calls Tryz.prog 99 #[.slice (some ⟨g, 0, none⟩) ps.length c, .string sep] w (JoinPost (Lib.join ps sep.data.toList) w) := by
  obtain ⟨xs, hxs⟩ : ∃ xs : List ByteArray, xs = ps.map fun p => ⟨p.toArray⟩ := ⟨_, rfl⟩
  have hmap : xs.map (·.data.toList) = ps := by rw [hxs, List.map_map]; simp [Function.comp_def]
  have hlen : xs.length = ps.length := by rw [hxs]; simp
  have hcap : ps.length ≤ c := by
    rcases hown.2 with ⟨h0, _⟩ | ⟨g', cap, cur, h0, _, _, h1, _⟩
    · simp at h0
    · simp only [Value.slice.injEq] at h0
      obtain ⟨_, _, rfl⟩ := h0
      exact h1
  have h := Tryz.strings_Join g 0 c xs sep w (fun j x hj => by
      have hlt : j < xs.length := (List.getElem?_eq_some_iff.1 hj).1
      rw [Nat.zero_add, hown.cellAt j (by omega)]
      rw [hxs, List.getElem?_map] at hj
      unfold strs
      rw [List.getElem?_map]
      cases hp : ps[j]? with
      | none => rw [hp] at hj; cases hj
      | some p => rw [hp] at hj; simp at hj; subst hj; rfl) (own_lt hown).2 (by omega) (by omega) (by rw [hmap]; omega)
  rw [hmap, hlen] at h
  exact h

theorem own_SL {w : World} {B g c : Nat} {ps : List (List UInt8)} (hown : w.ownsRow B 9 1 (.slice (some ⟨g, 0, none⟩) ps.length c) ps.length (strs ps)) : SL w w.heap.size (some ⟨g, 0, none⟩) ps.length ps :=
  ⟨rfl, fun k p hk => ⟨⟨g, 0, none⟩, rfl, (own_lt hown).2, by
    have hlt : k < ps.length := (List.getElem?_eq_some_iff.1 hk).1
    have e : ((⟨g, 0, none⟩ : Addr).add k) = ⟨g, k, none⟩ := by unfold Addr.add; split <;> simp_all
    rw [e, hown.cellAt k (by omega)]
    simp [strs, hk]⟩⟩
end Go.Proofs.YtppliiingoonlaaGreatDoor

/-
  What spec.SplitByte and impl.SplitByte answer at a string of at most 2^20 bytes: the substrings between the occurrences of the byte, in a new row of their own. Behind the call nothing that was there has turned.
-/
namespace Go.Proofs.YtppliiingoonlaaGreatDoor
open Go.RowKit
set_option maxRecDepth 100000 in
set_option maxHeartbeats 800000 in
theorem specSplit_any (s : ByteArray) (c : UInt8) (w : World) (hl : s.size ≤ 1048576) :
    Calls Tryz.prog 68 #[.string s, .int .u8 c.toNat] w (SplPost (spl c s.data.toList) w) := by
  obtain ⟨i0, hi, hz0, hz1, hz2⟩ := info_parts strInfo
  have hlen : s.data.toList.length = s.size := by simp
  have HLEN := Lib.hid hlen
  clear hlen
  go_enter Tryz.func68, Tryz.ntmps68
  go_wp2
  go_loopw [5, 6, 7] (fun v fr i wr => ∃ (k f : Nat) (P : List (List UInt8)), i = .int .i64 k ∧ fr = .int .i64 f ∧ k ≤ s.size + 1 ∧ SplRel c s.data.toList P f k ∧ wr.ownsRow w.heap.size 9 1 v P.length (strs P) ∧ Below w.heap.size w wr) (fun _ _ i _ => s.size + 1 - (intOf i).toNat)
  case atStart => exact ⟨0, 0, [], rfl, rfl, by omega, SplRel.start _ _, World.ownsRow_made w #[] 0 (Nat.le_refl _) (by unfold maxLen; omega) rfl, (Below.refl _ _).alloc (Nat.le_refl _) _⟩
  case round =>
    obtain ⟨k, f, P, rfl, rfl, hk, hrel, hown, hb⟩ := hrel
    have hbd := hrel.bound
    rw [HLEN.out] at hbd
    obtain ⟨hf, hP, hfk⟩ := hbd
    have HR := Lib.hid hrel
    clear hrel
    by_cases hlt : k < s.size
    · have e1 : ((k : Int) == (s.size : Int)) = false := by simp; omega
      have hget : s.data.toList[k]? = some s[k] := by simp [hlt]; rfl
      have HG := Lib.hid hget
      clear hget
      obtain ⟨hfk1, hfk2⟩ := hfk (by omega)
      by_cases hq : s[k] = c
      · have hrel' := HR.out.hit (by rw [HLEN.out]; exact hlt) (HG.out.trans (by rw [hq]))
        have HR' := Lib.hid hrel'
        clear hrel'
        have e2 : ((s[k].toNat : Int) == (c.toNat : Int)) = true := by rw [hq]; simp
        clear hq
        go_wp2_with (at_builtin; refine wpList_append_own _ rfl (.tmp 26) (.tmp 31) 79 rfl w.heap.size 9 i0 (.string ⟨#[]⟩) 1 16 Tryz.underlying79 hi hz0 hz1 hz2 rfl (by decide) _ _ _ rfl (hown.alloc _) ⟨wr.heap.size, 0, none⟩ 1 1 [.string (s.extract f k)] rfl rfl (newCell wr _ (s.extract f k)) (oneCell_str _) (by unfold maxLen; omega) (by omega) (by have := hb.size; simp; omega) ?_)
        intro v' w1 hown' hgrow _
        have R := grow_strs (w := w) (extract_str s f k) hown hb hb.size hown' hgrow
        clear hown' hgrow hown hb
        go_wp2
        go_roundw
        case rel => exact ⟨k + 1, k + 1, _, by go_num, by go_num, by omega, HR'.out, R.1, R.2⟩
        case measure => simp [intOf]; omega
      · have hrel' := HR.out.pass (by rw [HLEN.out]; exact hlt) (fun e => hq (Option.some.inj (HG.out.symm.trans e)))
        have HR' := Lib.hid hrel'
        clear hrel'
        have e2 : ((s[k].toNat : Int) == (c.toNat : Int)) = false := by
          simp only [beq_eq_false_iff_ne, ne_eq]
          intro e
          exact hq (UInt8.toNat_inj.1 (by omega))
        clear hq
        go_wp2
        go_roundw
        case rel => exact ⟨k + 1, f, P, by go_num, rfl, by omega, HR'.out, hown, hb⟩
        case measure => simp [intOf]; omega
    · by_cases hle : k = s.size
      · subst hle
        have e1 : ((s.size : Int) == (s.size : Int)) = true := by simp
        have hrel' := HR.out
        rw [← HLEN.out] at hrel'
        have hrel'' := hrel'.last
        rw [HLEN.out] at hrel''
        have HR' := Lib.hid hrel''
        clear hrel' hrel''
        obtain ⟨hfk1, hfk2⟩ := hfk (by omega)
        go_wp2_with (at_builtin; refine wpList_append_own _ rfl (.tmp 26) (.tmp 31) 79 rfl w.heap.size 9 i0 (.string ⟨#[]⟩) 1 16 Tryz.underlying79 hi hz0 hz1 hz2 rfl (by decide) _ _ _ rfl (hown.alloc _) ⟨wr.heap.size, 0, none⟩ 1 1 [.string (s.extract f s.size)] rfl rfl (newCell wr _ (s.extract f s.size)) (oneCell_str _) (by unfold maxLen; omega) (by omega) (by have := hb.size; simp; omega) ?_)
        intro v' w1 hown' hgrow _
        have R := grow_strs (w := w) (extract_str s f s.size) hown hb hb.size hown' hgrow
        clear hown' hgrow hown hb
        go_wp2
        go_roundw
        case rel => exact ⟨s.size + 1, s.size + 1, _, by go_num, by go_num, by omega, HR'.out, R.1, R.2⟩
        case measure => simp [intOf]
      · have hk1 : k = s.size + 1 := by omega
        subst hk1
        go_wp2
        go_ret
        exact ⟨_, rfl, by rw [HR.out.done (by rw [HLEN.out])]; exact hown, hb⟩

/-- The size of a string in a slot. -/
def strSize : Value → Nat
  | .string t => t.size
  | _ => 0
theorem extract_rest (t : ByteArray) (o : Nat) : (t.extract (o + 1) t.size).data.toList = t.data.toList.drop (o + 1) := by
  simp
  exact List.take_of_length_le (by simp)
theorem extract_rest_size (t : ByteArray) (o : Nat) : (t.extract (o + 1) t.size).size = t.size - (o + 1) := by simp [ByteArray.size_extract]
/-- strings.IndexByte: nothing found. -/
theorem index_no (t : ByteArray) (c : UInt8) (w : World) (h : Lib.indexByte t.data.toList c = -1) :
    Calls Tryz.prog 100 #[.string t, .int .u8 c.toNat] w fun e w' => e = .returned (.int .i64 (-1)) ∧ w = w' := by
  refine (Tryz.strings_IndexByte t c.toNat w).mono ?_
  rintro e w' ⟨rfl, rfl⟩
  have hc : ((c.toNat : Int)).toNat.toUInt8 = c := by simp
  rw [hc, h]
  exact ⟨rfl, rfl⟩
/-- strings.IndexByte: found at o. -/
theorem index_yes (t : ByteArray) (c : UInt8) (o : Nat) (w : World) (h : Lib.indexByte t.data.toList c = o) :
    Calls Tryz.prog 100 #[.string t, .int .u8 c.toNat] w fun e w' => e = .returned (.int .i64 o) ∧ w = w' := by
  refine (Tryz.strings_IndexByte t c.toNat w).mono ?_
  rintro e w' ⟨rfl, rfl⟩
  have hc : ((c.toNat : Int)).toNat.toUInt8 = c := by simp
  rw [hc, h]
  exact ⟨rfl, rfl⟩

set_option maxRecDepth 100000 in
set_option maxHeartbeats 800000 in
theorem implSplit_any (s : ByteArray) (c : UInt8) (w : World) (hl : s.size ≤ 1048576) :
    Calls Tryz.prog 54 #[.string s, .int .u8 c.toNat] w (SplPost (spl c s.data.toList) w) := by
  obtain ⟨i0, hi, hz0, hz1, hz2⟩ := info_parts strInfo
  go_enter Tryz.func54, Tryz.ntmps54
  go_wp2
  go_loopw [0, 5] (fun sv v wr => ∃ (t : ByteArray) (P : List (List UInt8)), sv = .string t ∧ t.size + P.length ≤ s.size ∧ spl c s.data.toList = P ++ spl c t.data.toList ∧ wr.ownsRow w.heap.size 9 1 v P.length (strs P) ∧ Below w.heap.size w wr) (fun sv _ _ => strSize sv)
  case atStart => exact ⟨s, [], rfl, by simp, by simp, World.ownsRow_nil _ _ _ _, Below.refl _ _⟩
  case round =>
    obtain ⟨t, P, rfl, hsz, hsp, hown, hb⟩ := hrel
    have HSP := Lib.hid hsp
    clear hsp
    have hlen : t.data.toList.length = t.size := by simp
    have HLEN := Lib.hid hlen
    clear hlen
    by_cases hq : Lib.indexByte t.data.toList c = -1
    · have HI := Lib.hid (fun w => index_no t c w hq)
      have hone := spl_none c t.data.toList (fun b hbm e => by
        obtain ⟨k, hk⟩ := List.getElem?_of_mem hbm
        exact Lib.indexByte_none hq k (hk.trans (by rw [e])))
      have HONE := Lib.hid hone
      clear hq hone
      go_wp2_with (first
        | (go_at_call 100; refine (HI.out _).mono ?_; rintro e w' ⟨rfl, rfl⟩)
        | (at_builtin; refine wpList_append_own _ rfl (.tmp 12) (.tmp 14) 79 rfl w.heap.size 9 i0 (.string ⟨#[]⟩) 1 16 Tryz.underlying79 hi hz0 hz1 hz2 rfl (by decide) _ _ _ rfl (hown.alloc _) ⟨wr.heap.size, 0, none⟩ 1 1 [.string t] rfl rfl (newCell wr _ t) (oneCell_str _) (by unfold maxLen; omega) (by omega) (by have := hb.size; simp; omega) ?_))
      intro v' w1 hown' hgrow _
      have R := grow_strs (p := t.data.toList) (w := w) rfl hown hb hb.size hown' hgrow
      clear hown' hgrow hown hb
      go_wp2
      go_ret
      exact ⟨_, rfl, by rw [HSP.out, HONE.out]; exact R.1, R.2⟩
    · have hge := Lib.indexByte_ge t.data.toList c
      obtain ⟨o, ho⟩ : ∃ o : Nat, Lib.indexByte t.data.toList c = o := ⟨(Lib.indexByte t.data.toList c).toNat, by omega⟩
      have HI := Lib.hid (fun w => index_yes t c o w ho)
      obtain ⟨hat, hbef⟩ := Lib.indexByte_some ho
      have hot : o < t.size := by
        have := (List.getElem?_eq_some_iff.1 hat).1
        rw [HLEN.out] at this
        exact this
      have hone := spl_at c t.data.toList o hat hbef
      have HONE := Lib.hid hone
      clear hq hone hat hbef ho hge
      go_wp2_with (first
        | (go_at_call 100; refine (HI.out _).mono ?_; rintro e w' ⟨rfl, rfl⟩)
        | (at_builtin; refine wpList_append_own _ rfl (.tmp 16) (.tmp 20) 79 rfl w.heap.size 9 i0 (.string ⟨#[]⟩) 1 16 Tryz.underlying79 hi hz0 hz1 hz2 rfl (by decide) _ _ _ rfl (hown.alloc _) ⟨wr.heap.size, 0, none⟩ 1 1 [.string (t.extract 0 o)] rfl rfl (newCell wr _ (t.extract 0 o)) (oneCell_str _) (by unfold maxLen; omega) (by omega) (by have := hb.size; simp; omega) ?_))
      intro v' w1 hown' hgrow _
      have R := grow_strs (w := w) (extract_str t 0 o) hown hb hb.size hown' hgrow
      clear hown' hgrow hown hb
      go_wp2
      go_roundw
      case rel => exact ⟨t.extract (o + 1) t.size, P ++ [(t.data.toList.drop 0).take (o - 0)], rfl, by rw [extract_rest_size]; simp; omega, by rw [HSP.out, HONE.out, extract_rest]; simp, R.1, R.2⟩
      case measure => show (t.extract (o + 1) t.size).size < t.size; rw [extract_rest_size]; omega
#print axioms implSplit_any
end Go.Proofs.YtppliiingoonlaaGreatDoor

/-
  laws.FnExactSplitByte answers true at every string and byte; behind the call nothing that was there has turned.
-/
namespace Go.Proofs.YtppliiingoonlaaGreatDoor
open Go.RowKit
/-- Where there is a piece the slice is not nil. -/
theorem SplPost.form {ps : List (List UInt8)} {w : World} {e : Ending} {w' : World} (h : SplPost ps w e w') (hne : ps ≠ []) :
    ∃ g c, e = .returned (.slice (some ⟨g, 0, none⟩) ps.length c) ∧ w'.ownsRow w.heap.size 9 1 (.slice (some ⟨g, 0, none⟩) ps.length c) ps.length (strs ps) ∧ Below w.heap.size w w' := by
  obtain ⟨v, rfl, hown, hb⟩ := h
  rcases hown.2 with ⟨_, h0⟩ | ⟨g, cap, cur, rfl, _⟩
  · exact absurd (List.eq_nil_of_length_eq_zero h0) hne
  · exact ⟨g, cap, rfl, hown, hb⟩

/-- An own row over calls that turn nothing old. -/
theorem own_below {w w' : World} {B : Nat} {e : TypeId} {size n g c : Nat} {xs : List Value} (h : w.ownsRow B e size (.slice (some ⟨g, 0, none⟩) n c) n xs) (hb : Below w.heap.size w w') : w'.ownsRow B e size (.slice (some ⟨g, 0, none⟩) n c) n xs :=
  h.kept (grown_of_below hb none) (.inr (by simp [Value.ownBlock]))
theorem own_other {w w' : World} {B : Nat} {e : TypeId} {size n g g' c : Nat} {xs : List Value} (h : w.ownsRow B e size (.slice (some ⟨g, 0, none⟩) n c) n xs) (hg : w.grownBy w' (some g')) (hne : g ≠ g') : w'.ownsRow B e size (.slice (some ⟨g, 0, none⟩) n c) n xs :=
  h.kept hg (.inr (by simpa [Value.ownBlock] using hne))

end Go.Proofs.YtppliiingoonlaaGreatDoor

/-
  What impl.joinFits and impl.Join answer over a row of strings of the caller's own: the joined bytes, none where they are too many. Behind the call nothing that was there has turned.
-/
namespace Go.Proofs.YtppliiingoonlaaGreatDoor
open Go.RowKit
set_option maxRecDepth 100000 in
set_option maxHeartbeats 800000 in
theorem fits_yes (A : Option Addr) (c : Nat) (ps : List (List UInt8)) (sep : ByteArray) (w : World) (h : SL w w.heap.size A ps.length ps) (hn : ps.length ≤ 1048576) (hl : Lib.lens ps ≤ 1048576) (hsep : sep.size ≤ 1048576)
    (hq : (Lib.join ps sep.data.toList).length ≤ 1048576) :
    Calls Tryz.prog 98 #[.slice A ps.length c, .string sep] w fun e w' => e = .returned (.bool true) ∧ w = w' := by
  have HS := Lib.hid h
  have HQ := Lib.hid hq
  clear h hq
  go_enter Tryz.func98, Tryz.ntmps98
  go_wp2
  go_loop [5, 10] (fun sv i => ∃ k : Nat, i = .int .i64 k ∧ k ≤ ps.length ∧ (Lib.join (ps.take k) sep.data.toList).length ≤ 1048576 ∧ sv = .int .i64 ((Lib.join (ps.take k) sep.data.toList).length : Nat)) (fun _ i => ps.length - (intOf i).toNat)
  case atStart => exact ⟨0, rfl, Nat.zero_le _, by simp [Lib.join_nil], by simp [Lib.join_nil]⟩
  case round =>
    obtain ⟨k, rfl, hk, hle, rfl⟩ := hrel
    obtain ⟨L, hL⟩ : ∃ L, L = Lib.join (ps.take k) sep.data.toList := ⟨_, rfl⟩
    rw [← hL] at hle ⊢
    have HL := Lib.hid hL
    clear hL
    by_cases hlt : k < ps.length
    · obtain ⟨p, hp⟩ : ∃ p, ps[k]? = some p := ⟨_, List.getElem?_eq_getElem hlt⟩
      obtain ⟨ad, rfl, hblk, hc⟩ := HS.out.2 k p hp
      have hpl := elem_le_lens hp
      have HP := Lib.hid hp
      clear hp
      by_cases hk0 : 0 < k
      · have hj : Lib.join (ps.take (k + 1)) sep.data.toList = L ++ sep.data.toList ++ p := by rw [join_step HP.out hk0, ← HL.out]
        have HJ := Lib.hid (show (Lib.join (ps.take (k + 1)) sep.data.toList).length = L.length + sep.size + p.length by rw [hj]; simp [Nat.add_assoc])
        clear hj
        by_cases hfit : L.length + sep.size + p.length ≤ 1048576
        · go_wp2
          go_round
          case rel => exact ⟨k + 1, by go_num, by omega, by rw [HJ.out]; exact hfit, by rw [HJ.out]; go_num⟩
          case measure => simp [intOf]; omega
        · exact absurd (Nat.le_trans (join_take_le ps sep.data.toList (k + 1)) HQ.out) (by rw [HJ.out]; exact hfit)
      · have hj : Lib.join (ps.take (k + 1)) sep.data.toList = L ++ p := by
          obtain rfl : k = 0 := by omega
          rw [join_first HP.out, HL.out]
          simp [Lib.join_nil]
        have HJ := Lib.hid (show (Lib.join (ps.take (k + 1)) sep.data.toList).length = L.length + p.length by rw [hj]; simp)
        clear hj
        by_cases hfit : L.length + p.length ≤ 1048576
        · go_wp2
          go_round
          case rel => exact ⟨k + 1, by go_num, by omega, by rw [HJ.out]; exact hfit, by rw [HJ.out]; go_num⟩
          case measure => simp [intOf]; omega
        · exact absurd (Nat.le_trans (join_take_le ps sep.data.toList (k + 1)) HQ.out) (by rw [HJ.out]; exact hfit)
    · obtain rfl : k = ps.length := by omega
      have e : ps.take ps.length = ps := List.take_of_length_le (Nat.le_refl _)
      have HL' := HL.out
      rw [e] at HL'
      have HF := Lib.hid HL'
      clear HL' e
      go_wp2
      go_ret
      exact ⟨rfl, rfl⟩

set_option maxRecDepth 100000 in
set_option maxHeartbeats 800000 in
theorem fits_no (A : Option Addr) (c : Nat) (ps : List (List UInt8)) (sep : ByteArray) (w : World) (h : SL w w.heap.size A ps.length ps) (hn : ps.length ≤ 1048576) (hl : Lib.lens ps ≤ 1048576) (hsep : sep.size ≤ 1048576)
    (hq : ¬ (Lib.join ps sep.data.toList).length ≤ 1048576) :
    Calls Tryz.prog 98 #[.slice A ps.length c, .string sep] w fun e w' => e = .returned (.bool false) ∧ w = w' := by
  have HS := Lib.hid h
  have HQ := Lib.hid hq
  clear h hq
  go_enter Tryz.func98, Tryz.ntmps98
  go_wp2
  go_loop [5, 10] (fun sv i => ∃ k : Nat, i = .int .i64 k ∧ k ≤ ps.length ∧ (Lib.join (ps.take k) sep.data.toList).length ≤ 1048576 ∧ sv = .int .i64 ((Lib.join (ps.take k) sep.data.toList).length : Nat)) (fun _ i => ps.length - (intOf i).toNat)
  case atStart => exact ⟨0, rfl, Nat.zero_le _, by simp [Lib.join_nil], by simp [Lib.join_nil]⟩
  case round =>
    obtain ⟨k, rfl, hk, hle, rfl⟩ := hrel
    obtain ⟨L, hL⟩ : ∃ L, L = Lib.join (ps.take k) sep.data.toList := ⟨_, rfl⟩
    rw [← hL] at hle ⊢
    have HL := Lib.hid hL
    clear hL
    by_cases hlt : k < ps.length
    · obtain ⟨p, hp⟩ : ∃ p, ps[k]? = some p := ⟨_, List.getElem?_eq_getElem hlt⟩
      obtain ⟨ad, rfl, hblk, hc⟩ := HS.out.2 k p hp
      have hpl := elem_le_lens hp
      have HP := Lib.hid hp
      clear hp
      by_cases hk0 : 0 < k
      · have hj : Lib.join (ps.take (k + 1)) sep.data.toList = L ++ sep.data.toList ++ p := by rw [join_step HP.out hk0, ← HL.out]
        have HJ := Lib.hid (show (Lib.join (ps.take (k + 1)) sep.data.toList).length = L.length + sep.size + p.length by rw [hj]; simp [Nat.add_assoc])
        clear hj
        by_cases hfit : L.length + sep.size + p.length ≤ 1048576
        · go_wp2
          go_round
          case rel => exact ⟨k + 1, by go_num, by omega, by rw [HJ.out]; exact hfit, by rw [HJ.out]; go_num⟩
          case measure => simp [intOf]; omega
        · go_wp2
          go_ret
          exact ⟨rfl, rfl⟩
      · have hj : Lib.join (ps.take (k + 1)) sep.data.toList = L ++ p := by
          obtain rfl : k = 0 := by omega
          rw [join_first HP.out, HL.out]
          simp [Lib.join_nil]
        have HJ := Lib.hid (show (Lib.join (ps.take (k + 1)) sep.data.toList).length = L.length + p.length by rw [hj]; simp)
        clear hj
        by_cases hfit : L.length + p.length ≤ 1048576
        · go_wp2
          go_round
          case rel => exact ⟨k + 1, by go_num, by omega, by rw [HJ.out]; exact hfit, by rw [HJ.out]; go_num⟩
          case measure => simp [intOf]; omega
        · go_wp2
          go_ret
          exact ⟨rfl, rfl⟩
    · obtain rfl : k = ps.length := by omega
      have e : ps.take ps.length = ps := List.take_of_length_le (Nat.le_refl _)
      have HL' := HL.out
      rw [e] at HL'
      have HF := Lib.hid HL'
      clear HL' e
      exact absurd (by rw [← HF.out]; exact hle) HQ.out

set_option maxRecDepth 100000 in
set_option maxHeartbeats 800000 in
theorem implJoin_any (g c B : Nat) (ps : List (List UInt8)) (sep : ByteArray) (w : World) (hown : w.ownsRow B 9 1 (.slice (some ⟨g, 0, none⟩) ps.length c) ps.length (strs ps)) (hn : ps.length ≤ 1048576) (hl : Lib.lens ps ≤ 1048576) (hsep : sep.size ≤ 1048576) :
    Calls Tryz.prog 53 #[.slice (some ⟨g, 0, none⟩) ps.length c, .string sep] w (JoinPost (joined ps sep.data.toList) w) := by
  by_cases hq : (Lib.join ps sep.data.toList).length ≤ 1048576
  · have HF := Lib.hid (fits_yes (some ⟨g, 0, none⟩) c ps sep w (own_SL hown) hn hl hsep hq)
    have HJ := Lib.hid (libJoin_any g c B ps sep w hown hn hq)
    have HQ := Lib.hid (joined_yes hq)
    clear hown hq
    go_enter Tryz.func53, Tryz.ntmps53
    go_wp2_with (first
      | (go_at_call 98; refine HF.out.mono ?_; rintro e w1 ⟨rfl, rfl⟩)
      | (go_at_call 99; refine HJ.out.mono ?_; rintro e w2 ⟨rfl, hb2⟩))
    go_ret
    exact ⟨by rw [HQ.out]; rfl, hb2⟩
  · have HF := Lib.hid (fits_no (some ⟨g, 0, none⟩) c ps sep w (own_SL hown) hn hl hsep hq)
    have HQ := Lib.hid (joined_no hq)
    clear hown hq
    go_enter Tryz.func53, Tryz.ntmps53
    go_wp2_with (go_at_call 98; refine HF.out.mono ?_; rintro e w1 ⟨rfl, rfl⟩)
    go_ret
    exact ⟨by rw [HQ.out]; rfl, Below.refl _ _⟩
end Go.Proofs.YtppliiingoonlaaGreatDoor

/-
  What spec's l9Length, l9Read, l9Parse answer.
-/
namespace Go.Proofs.YtppliiingoonlaaGreatDoor
open Go.RowKit
theorem readN_of {l : List UInt8} {v : Int} {ok : Bool} (h : InRange (-999999999999) 999999999999 l v ok) : v = readN l := by
  rcases h with ⟨_, rfl, h0, h1⟩ | ⟨_, rfl, hn⟩
  · exact (readN_itoa h0 h1).symm
  · unfold readN
    rw [dif_neg (fun ⟨n, h0, h1, e⟩ => hn n h0 h1 e)]
theorem readN_in (l : List UInt8) : -999999999999 ≤ readN l ∧ readN l ≤ 999999999999 := by
  by_cases h : ∃ n : Int, -999999999999 ≤ n ∧ n ≤ 999999999999 ∧ l = Lib.itoa n
  · obtain ⟨n, h0, h1, rfl⟩ := h
    rw [readN_itoa h0 h1]
    exact ⟨h0, h1⟩
  · unfold readN
    rw [dif_neg h]
    exact ⟨by omega, by omega⟩
/-- The number that a text is, or 0, and some bool. -/
def NumPost (l : List UInt8) (w : World) (e : Ending) (w' : World) : Prop := ∃ ok, e = .returned (.tuple #[.int .i64 (readN l), .bool ok]) ∧ Below w.heap.size w w'
theorem specNum_any (s : ByteArray) (w : World) (hs : s.size ≤ maxLen) : Calls Tryz.prog 176 #[.string s] w (NumPost s.data.toList w) :=
  (specParseInt_any s w hs).mono fun _ _ ⟨v, ok, he, hr, hb⟩ => ⟨ok, by rw [he, readN_of hr], hb⟩

/-- A row of ints of the call's own. -/
def NR (w : World) (B : Nat) (v : Value) (l : List Int) : Prop := w.ownsRow B 3 1 v l.length (ints l)
theorem nr_block {w : World} {B : Nat} {v : Value} {l : List Int} (h : NR w B v l) {g : Nat} (hg : v.ownBlock = some g) : ∃ cur, w.heap[g]? = some (.cells cur 3 (0, 0)) := by
  rcases h.2 with ⟨rfl, _⟩ | ⟨g', cap, cur, rfl, _, hh, _⟩
  · simp [Value.ownBlock] at hg
  · simp [Value.ownBlock] at hg
    subst hg
    exact ⟨cur, hh⟩
theorem nr_below {w w' : World} {B : Nat} {v : Value} {l : List Int} (h : NR w B v l) (hb : Below w.heap.size w w') : NR w' B v l := owns_below h hb
theorem nr_shape {w : World} {B : Nat} {e : TypeId} {v : Value} {k : Nat} {xs : List Value} (h : w.ownsRow B e 1 v (k + 1) xs) : ∃ g c, v = .slice (some ⟨g, 0, none⟩) (k + 1) c := by
  rcases h.2 with ⟨_, h0⟩ | ⟨g, cap, _, rfl, _⟩
  · omega
  · exact ⟨g, cap, rfl⟩
theorem nr_any {w : World} {B : Nat} {v : Value} {l : List Int} (h : NR w B v l) : ∃ A c, v = .slice A l.length c := by
  rcases h.2 with ⟨rfl, h0⟩ | ⟨g, cap, _, rfl, _⟩
  · exact ⟨none, 0, by rw [h0]⟩
  · exact ⟨_, cap, rfl⟩
/-- A constraint that grows: its box and its row of ints. -/
structure OutC (B : Nat) (w : World) (bo : Nat) (c : Cx) (xu vc : Value) (l : List Int) : Prop where
  box : w.heap[bo]? = some (.cells (cxA c xu vc) 29 (0, 0))
  low : B ≤ bo
  row : NR w B vc l
theorem OutC.boxC {B : Nat} {w : World} {bo : Nat} {c : Cx} {xu vc : Value} {l : List Int} (h : OutC B w bo c xu vc l) : BoxC w bo c xu vc := ⟨_, h.box⟩
theorem OutC.below {B : Nat} {w w' : World} {bo : Nat} {c : Cx} {xu vc : Value} {l : List Int} (h : OutC B w bo c xu vc l) (hb : Below w.heap.size w w') : OutC B w' bo c xu vc l :=
  ⟨(hb.block bo h.boxC.lt).trans h.box, h.low, nr_below h.row hb⟩
theorem outC_ne {B : Nat} {w : World} {bo : Nat} {c : Cx} {xu vc v : Value} {l m : List Int} (h : OutC B w bo c xu vc l) (hn : NR w B v m) {g : Nat} (hg : v.ownBlock = some g) : g ≠ bo := fun e => by
  subst e
  obtain ⟨cur, hh⟩ := nr_block hn hg
  have := hh.symm.trans h.box
  simp at this
/-- A number is appended and stored. -/
theorem OutC.push {B : Nat} {w w7 : World} {bo : Nat} {c : Cx} {xu vc v' : Value} {l : List Int} {x : Int} {o : Obj} (h : OutC B w bo c xu vc l)
    (hown : w7.ownsRow B 3 1 v' (l.length + 1) (ints l ++ [.int .i64 x])) (hg : (w.alloc o).grownBy w7 vc.ownBlock) :
    OutC B (w7.setCell ⟨bo, 6, none⟩ v') bo c xu v' (l ++ [x]) ∧ (∀ C, C ≤ B → Below C (w.alloc o) (w7.setCell ⟨bo, 6, none⟩ v')) ∧ CellC w7 bo c xu vc ∧ w7.frozen? ⟨bo, 6, none⟩ = false := by
  have hlt := h.boxC.lt
  have hne : vc.ownBlock ≠ some bo := fun e => outC_ne h h.row e rfl
  have hb7 : w7.heap[bo]? = some (.cells (cxA c xu vc) 29 (0, 0)) := by
    rw [hg.block bo (by simp; omega) (fun e => hne e.symm)]
    exact (Below.heap_alloc w o bo hlt).trans h.box
  have hn7 : NR w7 B v' (l ++ [x]) := by
    unfold NR
    rw [show ints (l ++ [x]) = ints l ++ [.int .i64 x] by simp [ints], List.length_append]
    exact hown
  have hne7 : ∀ g, v'.ownBlock = some g → g ≠ bo := fun g hg e => by
    subst e
    obtain ⟨cur, hh⟩ := nr_block hn7 hg
    have := hh.symm.trans hb7
    simp at this
  refine ⟨⟨?_, h.low, ?_⟩, fun C hC => ?_, BoxC.cells ⟨_, hb7⟩, frozen_of_row w7 bo 6 _ _ hb7⟩
  · have := heap_setCell_same w7 bo 6 _ _ v' hb7
    simpa [cxA] using this
  · unfold NR
    obtain ⟨h1, h2⟩ := hn7
    refine ⟨h1, ?_⟩
    rcases h2 with h2 | ⟨g, cap, cur, rfl, h3, h4, h5⟩
    · exact .inl h2
    · refine .inr ⟨g, cap, cur, rfl, h3, ?_, h5⟩
      rw [Below.heap_setCell _ _ _ g (fun e => hne7 g rfl e)]
      exact h4
  · have hbw : Below C (w.alloc o) w7 := ⟨hg.os, hg.tape, hg.output, hg.size, fun k hk => hg.block k (by
      have := h.boxC.lt
      have := h.low
      simp
      omega) (fun e => by
        have := (h.row.lt k (by rw [e])).1
        omega)⟩
    exact hbw.setCell (p := ⟨bo, 6, none⟩) (Nat.le_trans hC h.low) _

theorem NR.own {w : World} {B : Nat} {v : Value} {l : List Int} (h : NR w B v l) (hl : l.length ≤ 9223372036854775807) : RowO w (fun g => B ≤ g ∧ g < w.heap.size) v (ints l) :=
  (RowO.of_owns h hl).any fun g hg => h.lt g hg
/-- What l9Length reads. -/
noncomputable def lenCx (ps : List (List UInt8)) : Cx := ⟨5, ⟨#[]⟩, ⟨#[]⟩, 0, ⟨#[]⟩, .nil, ((ps.drop 1).take (ps.length - 2)).map readN, readN (ps.getLastD [])⟩
theorem strRow_at {w : World} {B : Nat} {v : Value} {ps : List (List UInt8)} (h : w.ownsRow B 9 1 v ps.length (strs ps)) (hn : 1 ≤ ps.length) :
    ∃ g c, v = .slice (some ⟨g, 0, none⟩) ps.length c ∧ g < w.heap.size ∧ ∀ j (hj : j < ps.length), w.cell? ⟨g, j, none⟩ = some (.string ⟨ps[j].toArray⟩) := by
  obtain ⟨_, h2⟩ := id h
  rcases h2 with ⟨_, h0⟩ | ⟨g, cap, cur, rfl, _, hh, _⟩
  · omega
  · refine ⟨g, cap, rfl, (Array.getElem?_eq_some_iff.1 hh).1, fun j hj => ?_⟩
    have := h.cellAt j (by omega)
    rw [this]
    simp [strs, hj]

set_option maxRecDepth 100000 in
set_option maxHeartbeats 6400000 in
theorem specLen_any (ps : List (List UInt8)) (v : Value) (B : Nat) (w : World) (hown : w.ownsRow B 9 1 v ps.length (strs ps)) (hn : 1 ≤ ps.length) (hn2 : ps.length ≤ 1048577) (hz : ∀ p ∈ ps, p.length ≤ 1048576) :
    Calls Tryz.prog 122 #[v] w (CopyC (lenCx ps) w) := by
  obtain ⟨g, c, rfl, hg, hc⟩ := strRow_at hown hn
  have HC := Lib.hid (fun (V : World) (hb : Below w.heap.size w V) j (hj : j < ps.length) => (hb.cell (p := ⟨g, j, none⟩) hg).trans (hc j hj))
  have HP := Lib.hid (fun (j : Nat) (hj : j < ps.length) (V : World) => specNum_any ⟨ps[j].toArray⟩ V (by have := hz _ (List.getElem_mem hj); show ps[j].toArray.size ≤ maxLen; rw [List.size_toArray]; unfold maxLen; omega))
  clear hown hc hz
  obtain ⟨n, hN⟩ : ∃ n, ps.length = n + 1 := ⟨ps.length - 1, by omega⟩
  rw [hN]
  go_enter Tryz.func122, Tryz.ntmps122
  go_wp2_with fail
  obtain ⟨W1, hW1⟩ : ∃ W1, W1 = (w.alloc (.cells #[.int .i64 0, .string ⟨#[]⟩, .string ⟨#[]⟩, .int .i64 0, .string ⟨#[]⟩, .slice none 0 0, .slice none 0 0, .int .i64 0] 29)).alloc (.cells #[.int .i64 5, .string ⟨#[]⟩, .string ⟨#[]⟩, .int .i64 0, .string ⟨#[]⟩, .slice none 0 0, .slice none 0 0, .int .i64 0] 29) := ⟨_, rfl⟩
  rw [← hW1]
  have hz1 : W1.heap.size = w.heap.size + 1 + 1 := by rw [hW1]; simp
  have hbw1 : Below w.heap.size w W1 := by rw [hW1]; exact ((Below.refl _ _).alloc (Nat.le_refl _) _).alloc (by simp) _
  have ho1 : OutC (w.heap.size + 1) W1 (w.heap.size + 1) ⟨5, ⟨#[]⟩, ⟨#[]⟩, 0, ⟨#[]⟩, .nil, [], 0⟩ (.slice none 0 0) (.slice none 0 0) [] := by
    refine ⟨?_, Nat.le_refl _, World.ownsRow_nil _ _ _ _⟩
    rw [hW1]
    have := heap_alloc_new (w.alloc (.cells #[.int .i64 0, .string ⟨#[]⟩, .string ⟨#[]⟩, .int .i64 0, .string ⟨#[]⟩, .slice none 0 0, .slice none 0 0, .int .i64 0] 29)) (.cells #[.int .i64 5, .string ⟨#[]⟩, .string ⟨#[]⟩, .int .i64 0, .string ⟨#[]⟩, .slice none 0 0, .slice none 0 0, .int .i64 0] 29)
    rw [World.size_alloc] at this
    exact this
  have hr1 : W1.heap[w.heap.size]? = some (.cells #[.int .i64 0, .string ⟨#[]⟩, .string ⟨#[]⟩, .int .i64 0, .string ⟨#[]⟩, .slice none 0 0, .slice none 0 0, .int .i64 0] 29 (0, 0)) := by
    rw [hW1]
    exact (Below.heap_alloc _ _ _ (by simp)).trans (heap_alloc_new w _)
  have HO1 := Lib.hid ho1
  have HR1 := Lib.hid hr1
  have HBW1 := Lib.hid hbw1
  have HZ1 := Lib.hid hz1
  obtain ⟨i0, hi, hi0, hi1, hi2⟩ := info_parts intInfo
  clear hW1 ho1 hr1 hbw1 hz1
  go_loopw [4] (fun i wr => ∃ (k : Nat) (vr : Value), i = .int .i64 k ∧ 1 ≤ k ∧ (k = 1 ∨ k ≤ n) ∧ OutC (w.heap.size + 1) wr (w.heap.size + 1) ⟨5, ⟨#[]⟩, ⟨#[]⟩, 0, ⟨#[]⟩, .nil, [], 0⟩ (.slice none 0 0) vr (((ps.drop 1).take (k - 1)).map readN) ∧ Below (w.heap.size + 1) W1 wr) (fun i _ => n + 1 - (intOf i).toNat)
  case atStart => exact ⟨1, _, rfl, Nat.le_refl _, Or.inl rfl, by simpa using HO1.out, Below.refl _ _⟩
  case round =>
    obtain ⟨k, vr, rfl, hk1, hk2, ho, hb⟩ := hrel
    have HO := Lib.hid ho
    have HB := Lib.hid hb
    have hbo := HBW1.out.trans (hb.mono (by omega))
    obtain ⟨Av, cv, rfl⟩ := nr_any ho.row
    obtain ⟨l, hl⟩ : ∃ l, l = ((ps.drop 1).take (k - 1)).map readN := ⟨_, rfl⟩
    rw [← hl] at HO
    have hll : l.length ≤ 1048577 := by rw [hl, List.length_map, List.length_take]; omega
    have HLL := Lib.hid hl
    clear ho hb hl
    obtain ⟨b0, b1, b2, b3, b4, b5, b6, b7⟩ := HO.out.boxC.cells
    by_cases hlt : k < n
    · have hk : k < ps.length := by omega
      have hcell := HC.out _ hbo k hk
      have HPk := Lib.hid (fun V => HP.out k hk V)
      obtain ⟨px, hpx⟩ : ∃ px : ByteArray, px = ⟨ps[k].toArray⟩ := ⟨_, rfl⟩
      have HPX := Lib.hid (show px.data.toList = ps[k] by rw [hpx])
      rw [← hpx] at hcell HPk
      have hkl : ((k : Int) < (n : Int)) := by omega
      clear hpx
      go_wp2_with fail
      refine (HPk.out _).mono ?_
      rintro e' w2 ⟨ok, rfl, hb2⟩
      have HO2 := Lib.hid (HO.out.below hb2)
      have HB2 := Lib.hid (HB.out.trans (hb2.mono (by have := HB.out.size; have := HZ1.out; omega)))
      obtain ⟨x, hx⟩ : ∃ x, x = readN ps[k] := ⟨_, rfl⟩
      have HLN := Lib.hid (show l ++ [x] = ((ps.drop 1).take (k + 1 - 1)).map readN by
        rw [HLL.out, hx, ← List.map_singleton, ← List.map_append]
        congr 1
        obtain ⟨q, rfl⟩ : ∃ q, k = q + 1 := ⟨k - 1, by omega⟩
        rw [Nat.add_sub_cancel, Nat.add_sub_cancel, List.take_succ_eq_append_getElem (by simp; omega)]
        simp)
      rw [← hx]
      clear hb2 hcell b0 b1 b2 b3 b4 b5 b6 b7 hx
      obtain ⟨b0, b1, b2, b3, b4, b5, b6, b7⟩ := HO2.out.boxC.cells
      have hz2 : w.heap.size + 1 ≤ w2.heap.size := by have := HB2.out.size; have := HZ1.out; omega
      go_wp2_with (at_builtin; refine wpList_append_own _ rfl (.tmp 26) (.tmp 28) 27 rfl (w.heap.size + 1) 3 i0 (.int .i64 0) 1 8 Tryz.underlying27 hi hi0 hi1 hi2 rfl (by decide) _ _ _ rfl (HO2.out.row.alloc _) ⟨w2.heap.size, 0, none⟩ 1 1 [.int .i64 x] rfl rfl (cell_one_new _ _ _) (by simp [Value.oneCell']) (by unfold maxLen; omega) (by omega) (by simp; omega) ?_)
      intro v' w7 hown' hgrow _
      obtain ⟨gv, cv, rfl⟩ := nr_shape hown'
      obtain ⟨hp1, hp2, hp3, hp4⟩ := HO2.out.push hown' hgrow
      have HP1 := Lib.hid hp1
      have HP2 := Lib.hid (HB2.out.trans (((Below.refl _ _).alloc (Nat.le_refl w2.heap.size) _).mono (by have := HB2.out.size; have := HZ1.out; omega) |>.trans (hp2 _ (Nat.le_refl _))))
      obtain ⟨b0', b1', b2', b3', b4', b5', b6', b7'⟩ := hp3
      clear hown' hgrow hp1 hp2 b0 b1 b2 b3 b4 b5 b6 b7
      go_wp2_with fail
      go_roundw
      case rel => exact ⟨k + 1, _, by go_num, by omega, Or.inr (by omega), by rw [← HLN.out]; exact HP1.out, HP2.out⟩
      case measure => simp [intOf]; omega
    · have hkl : ¬ ((k : Int) < (n : Int)) := by omega
      have hcell := HC.out _ hbo n (by omega)
      have HPk := Lib.hid (fun V => HP.out n (by omega) V)
      have HLast := Lib.hid (show ps[n] = ps.getLastD [] by rw [List.getLastD_eq_getLast?, List.getLast?_eq_getElem?, List.getElem?_eq_getElem (by omega)]; simp only [hN, Nat.add_sub_cancel]; rfl)
      have HL2 := Lib.hid (show l = ((ps.drop 1).take (ps.length - 2)).map readN by
        rw [HLL.out, hN]
        rcases hk2 with rfl | h
        · rw [show n + 1 - 2 = 0 by omega]
        · rw [show k - 1 = n + 1 - 2 by omega])
      obtain ⟨px, hpx⟩ : ∃ px : ByteArray, px = ⟨ps[n].toArray⟩ := ⟨_, rfl⟩
      rw [← hpx] at hcell HPk
      clear hpx
      go_wp2_with fail
      refine (HPk.out _).mono ?_
      rintro e' w2 ⟨ok, rfl, hb2⟩
      have HO2 := Lib.hid (HO.out.below hb2)
      have HB2 := Lib.hid (HB.out.trans (hb2.mono (by have := HB.out.size; have := HZ1.out; omega)))
      obtain ⟨x, hx⟩ : ∃ x, x = readN ps[n] := ⟨_, rfl⟩
      rw [← hx]
      have HX := Lib.hid (show x = readN (ps.getLastD []) by rw [hx, HLast.out])
      clear hb2 hcell b0 b1 b2 b3 b4 b5 b6 b7 hx
      obtain ⟨b0, b1, b2, b3, b4, b5, b6, b7⟩ := HO2.out.boxC.cells
      have hrb : w2.heap[w.heap.size]? = some (.cells (cxA zeroX (.slice none 0 0) (.slice none 0 0)) 29 (0, 0)) := (HB2.out.block w.heap.size (Nat.lt_succ_self _)).trans HR1.out
      obtain ⟨r0, r1, r2, r3, r4, r5, r6, r7⟩ := BoxC.cells (c := zeroX) ⟨_, hrb⟩
      have HRB := Lib.hid hrb
      have f7 := HO2.out.boxC.frozen 7
      have fr := BoxC.frozen (c := zeroX) ⟨_, hrb⟩
      have f00 := fr 0
      have f01 := fr 1
      have f02 := fr 2
      have f03 := fr 3
      have f04 := fr 4
      have f05 := fr 5
      have f06 := fr 6
      have f07 := fr 7
      clear hrb fr
      go_wp2_with fail
      have hX := HO2.out.row
      obtain ⟨X, hXe⟩ : ∃ X, X = w2.setCell ⟨w.heap.size + 1, 7, none⟩ (.int .i64 x) := ⟨_, rfl⟩
      have hXb : X.heap[w.heap.size]? = some (.cells (cxA zeroX (.slice none 0 0) (.slice none 0 0)) 29 (0, 0)) := by
        rw [hXe, Below.heap_setCell _ _ _ _ (by simp)]
        exact HRB.out
      have hXz : X.heap.size = w2.heap.size := by rw [hXe]; simp [World.setCell]
      have hXo : ∀ g, g ≠ w.heap.size + 1 → X.heap[g]? = w2.heap[g]? := fun g hg => by rw [hXe, Below.heap_setCell _ _ _ _ hg]
      have hXw : Below w.heap.size w X := by
        rw [hXe]
        exact (HBW1.out.trans (HB2.out.mono (by omega))).setCell (p := ⟨w.heap.size + 1, 7, none⟩) (by simp) _
      rw [← hXe]
      have hle : l.length ≤ 9223372036854775807 := by omega
      have hrow : RowO X (fun g => w.heap.size < g ∧ g < X.heap.size) (.slice Av l.length cv) (ints l) := by
        refine (RowO.of_owns hX hle).mono (fun g hg => hXo g (outC_ne HO2.out HO2.out.row hg)) (fun g hg => ?_)
        have := HO2.out.row.lt g hg
        omega
      obtain ⟨⟨k0, k1, k2, k3, k4, k5, k6, k7⟩, hcp⟩ := copyC_end (w := w) (c := ⟨5, ⟨#[]⟩, ⟨#[]⟩, 0, ⟨#[]⟩, .nil, l, x⟩) (xu := .slice none 0 0) (vc := .slice Av l.length cv) hXb rfl (CnT.num (Nat.zero_le _) (Nat.zero_le _) (Nat.zero_le _) rfl hrow (fun _ h => h)) hXw
      unfold put8 at k0 k1 k2 k3 k4 k5 k6 k7 hcp
      refine bodyPost_ret (v := .agg #[.int .i64 5, .string ⟨#[]⟩, .string ⟨#[]⟩, .int .i64 0, .string ⟨#[]⟩, .slice none 0 0, .slice Av l.length cv, .int .i64 x]) (by simp [results, Tryz.results122, go_sem, k0, k1, k2, k3, k4, k5, k6, k7]) rfl ?_
      rw [show lenCx ps = ⟨5, ⟨#[]⟩, ⟨#[]⟩, 0, ⟨#[]⟩, .nil, l, x⟩ by rw [lenCx, HL2.out, HX.out]]
      exact hcp
end Go.Proofs.YtppliiingoonlaaGreatDoor

/-
  What impl.FormatConstraint answers.
-/
namespace Go.Proofs.YtppliiingoonlaaGreatDoor
open Go.RowKit
theorem join3 (p q r s : List UInt8) : Lib.join [p, q, r] s = p ++ (s ++ (q ++ (s ++ r))) := by
  simp [Lib.join, List.intercalate, List.intersperse]
theorem join5 (p q r t u s : List UInt8) : Lib.join [p, q, r, t, u] s = p ++ (s ++ (q ++ (s ++ (r ++ (s ++ (t ++ (s ++ u))))))) := by
  simp [Lib.join, List.intercalate, List.intersperse]
theorem lens3 (p q r : List UInt8) : Lib.lens [p, q, r] = p.length + (q.length + r.length) := by simp [Lib.lens]
theorem lens5 (p q r t u : List UInt8) : Lib.lens [p, q, r, t, u] = p.length + (q.length + (r.length + (t.length + u.length))) := by simp [Lib.lens]
theorem termT_le {l : List UInt8} (h : l.length ≤ 12) : (termT l).length ≤ 12 := by
  unfold termT
  split
  · simp
  · exact h
set_option maxRecDepth 100000 in
set_option maxHeartbeats 12800000 in
theorem implFmtC_any (c : Cx) (xu vc : Value) (w : World) (h : CnO w xu vc c) (hsz : c.xa.size ≤ 2097152) (hlaid : Pow10 w) :
    Calls Tryz.prog 13 #[.agg #[.int .i64 c.k, .string c.l, .string c.r, .int .i64 c.xk, .string c.xl, xu, vc, .int .i64 c.b]] w fun e w' => e = .returned (.string (strL (fmtX c))) ∧ Below w.heap.size w w' := by
  obtain ⟨A, m, B, r, rfl, rfl⟩ := h.shape
  obtain ⟨W, hW⟩ : ∃ W, W = w.alloc (.cells #[.int .i64 c.k, .string c.l, .string c.r, .int .i64 c.xk, .string c.xl, .slice A c.xa.items.length m, .slice B c.cs.length r, .int .i64 c.b] 29) := ⟨_, rfl⟩
  have hb0 : Below w.heap.size w W := by rw [hW]; exact (Below.refl _ _).alloc (Nat.le_refl _) _
  have hbx : BoxC W w.heap.size c (.slice A c.xa.items.length m) (.slice B c.cs.length r) := by rw [hW]; exact boxC_new w c _ _ _
  have HWE := Lib.hid hW
  have HB0 := Lib.hid hb0
  have HCX := Lib.hid (fun (V : World) (hb : Below W.heap.size W V) => (hbx.kept hb).cells)
  have HCN := Lib.hid (fun (V : World) (hb : Below W.heap.size W V) => h.kept (hb0.trans (hb.mono hb0.size)))
  have HFO := Lib.hid (formOf9_any c _ _ W (h.kept hb0) hsz)
  have HP := Lib.hid (fun (V : World) (hb : Below W.heap.size W V) => hlaid.below (hb0.trans (hb.mono hb0.size)))
  have hzW : W.heap.size = w.heap.size + 1 := by rw [hW]; simp
  have HZW := Lib.hid hzW
  have HPT := Lib.hid (fun (V : World) (sg : ByteArray) (hb : Below W.heap.size W V) => partsTerms_any c _ _ sg V (HCN.out V hb))
  have HPR := Lib.hid (fun (V : World) (sg : ByteArray) (hb : Below W.heap.size W V) => partsRegex_any c _ _ sg V (HCN.out V hb) hsz)
  have hcW := hbx.cells
  rw [hW] at hcW
  obtain ⟨c0, c1, c2, c3, c4, c5, c6, c7⟩ := hcW
  clear hW hb0 hbx h hzW
  cases hv : validX c with
  | false =>
    have HR := Lib.hid (show fmtX c = [] from if_neg (by rw [show validC c.cn = validX c from rfl, hv]; simp))
    unfold FoPost at HFO
    rw [hv] at HFO
    clear hv hsz
    rcases kinds6 c.k with hk | hk | hk | hk | hk | hk
    · have HA : Hid (∀ s, formArr s c.k.toNat = #[.int .i64 1, .string ⟨#[61]⟩, .func (.func 101) #[] #[], .func (.func 102) #[] #[], .func (.func 103) #[] #[], .func (.func 104) #[] #[]]) := Lib.hid (fun s => by rw [hk]; rfl)
      clear hk
      go_enter Tryz.func13, Tryz.ntmps13
      go_wp2_with fail
      rw [← HWE.out]
      refine HFO.out.mono ?_
      rintro e w1 ⟨s, hs, hf, rfl, hb1⟩
      rw [HA.out]
      have HB1 := Lib.hid hb1
      clear hf hb1 hs c0 c1 c2 c3 c4 c5 c6 c7
      go_wp2_with fail
      go_ret
      exact ⟨by rw [HR.out]; rfl, HB0.out.trans ((HB1.out.alloc HB1.out.size _).mono HB0.out.size)⟩
    · have HA : Hid (∀ s, formArr s c.k.toNat = #[.int .i64 2, .string ⟨#[33, 61]⟩, .func (.func 101) #[] #[], .func (.func 164) #[] #[.pointer (some ⟨s, 0, none⟩)], .func (.func 103) #[] #[], .func (.func 104) #[] #[]]) := Lib.hid (fun s => by rw [hk]; rfl)
      clear hk
      go_enter Tryz.func13, Tryz.ntmps13
      go_wp2_with fail
      rw [← HWE.out]
      refine HFO.out.mono ?_
      rintro e w1 ⟨s, hs, hf, rfl, hb1⟩
      rw [HA.out]
      have HB1 := Lib.hid hb1
      clear hf hb1 hs c0 c1 c2 c3 c4 c5 c6 c7
      go_wp2_with fail
      go_ret
      exact ⟨by rw [HR.out]; rfl, HB0.out.trans ((HB1.out.alloc HB1.out.size _).mono HB0.out.size)⟩
    · have HA : Hid (∀ s, formArr s c.k.toNat = #[.int .i64 3, .string ⟨#[105, 110]⟩, .func (.func 106) #[] #[], .func (.func 107) #[] #[], .func (.func 108) #[] #[], .func (.func 109) #[] #[]]) := Lib.hid (fun s => by rw [hk]; rfl)
      clear hk
      go_enter Tryz.func13, Tryz.ntmps13
      go_wp2_with fail
      rw [← HWE.out]
      refine HFO.out.mono ?_
      rintro e w1 ⟨s, hs, hf, rfl, hb1⟩
      rw [HA.out]
      have HB1 := Lib.hid hb1
      clear hf hb1 hs c0 c1 c2 c3 c4 c5 c6 c7
      go_wp2_with fail
      go_ret
      exact ⟨by rw [HR.out]; rfl, HB0.out.trans ((HB1.out.alloc HB1.out.size _).mono HB0.out.size)⟩
    · have HA : Hid (∀ s, formArr s c.k.toNat = #[.int .i64 4, .string ⟨#[111, 117, 116]⟩, .func (.func 106) #[] #[], .func (.func 164) #[] #[.pointer (some ⟨s + 1, 0, none⟩)], .func (.func 108) #[] #[], .func (.func 109) #[] #[]]) := Lib.hid (fun s => by rw [hk]; rfl)
      clear hk
      go_enter Tryz.func13, Tryz.ntmps13
      go_wp2_with fail
      rw [← HWE.out]
      refine HFO.out.mono ?_
      rintro e w1 ⟨s, hs, hf, rfl, hb1⟩
      rw [HA.out]
      have HB1 := Lib.hid hb1
      clear hf hb1 hs c0 c1 c2 c3 c4 c5 c6 c7
      go_wp2_with fail
      go_ret
      exact ⟨by rw [HR.out]; rfl, HB0.out.trans ((HB1.out.alloc HB1.out.size _).mono HB0.out.size)⟩
    · have HA : Hid (∀ s, formArr s c.k.toNat = #[.int .i64 5, .string ⟨#[108, 101, 110]⟩, .func (.func 110) #[] #[], .func (.func 111) #[] #[], .func (.func 112) #[] #[], .func (.func 113) #[] #[]]) := Lib.hid (fun s => by rw [hk]; rfl)
      clear hk
      go_enter Tryz.func13, Tryz.ntmps13
      go_wp2_with fail
      rw [← HWE.out]
      refine HFO.out.mono ?_
      rintro e w1 ⟨s, hs, hf, rfl, hb1⟩
      rw [HA.out]
      have HB1 := Lib.hid hb1
      clear hf hb1 hs c0 c1 c2 c3 c4 c5 c6 c7
      go_wp2_with fail
      go_ret
      exact ⟨by rw [HR.out]; rfl, HB0.out.trans ((HB1.out.alloc HB1.out.size _).mono HB0.out.size)⟩
    · have HA : Hid (∀ s, formArr s c.k.toNat = #[.int .i64 0, .string ⟨#[]⟩, .nilFunc, .nilFunc, .nilFunc, .nilFunc]) := Lib.hid (fun s => formArr_none (by omega) (by omega) (by omega) (by omega) (by omega))
      clear hk
      go_enter Tryz.func13, Tryz.ntmps13
      go_wp2_with fail
      rw [← HWE.out]
      refine HFO.out.mono ?_
      rintro e w1 ⟨s, hs, hf, rfl, hb1⟩
      rw [HA.out]
      have HB1 := Lib.hid hb1
      clear hf hb1 hs c0 c1 c2 c3 c4 c5 c6 c7
      go_wp2_with fail
      go_ret
      exact ⟨by rw [HR.out]; rfl, HB0.out.trans ((HB1.out.alloc HB1.out.size _).mono HB0.out.size)⟩
  | true =>
    unfold FoPost at HFO
    rw [hv] at HFO
    have hbody := fmtX_of hv
    obtain ⟨hsl, hsr⟩ := valid_strs hv
    have hkk := valid_kinds (c := c.cn) hv
    have HVA := Lib.hid hv
    clear hv
    rcases hkk with hk | hk | hk | hk | hk
    all_goals (have hk : c.k = _ := hk)
    · have HJB : Hid (fmtX c = Lib.join [termT c.l.data.toList, [61], termT c.r.data.toList] [32]) := Lib.hid (by rw [hbody, join3]; simp [bodyT, Cx.cn, hk])
      have hln : Lib.lens [termT c.l.data.toList, [61], termT c.r.data.toList] ≤ 1048576 := by rw [lens3]; have := termT_le (l := c.l.data.toList) (by simpa using hsl); have := termT_le (l := c.r.data.toList) (by simpa using hsr); simp only [List.length_cons, List.length_nil]; omega
      have hjl : (Lib.join [termT c.l.data.toList, [61], termT c.r.data.toList] [32]).length ≤ 1048576 := by
        rw [join3]
        have := hln
        rw [lens3] at this
        have hq : Lib.lens [termT c.l.data.toList, [61], termT c.r.data.toList] ≤ 200 := by rw [lens3]; have := termT_le (l := c.l.data.toList) (by simpa using hsl); have := termT_le (l := c.r.data.toList) (by simpa using hsr); simp only [List.length_cons, List.length_nil]; omega
        rw [lens3] at hq
        simp only [List.length_append, List.length_cons, List.length_nil] at hq ⊢
        omega
      have HJN := Lib.hid (joined_yes hjl)
      have HLN := Lib.hid hln
      clear hln hjl hbody
      have HA : Hid (∀ s, formArr s c.k.toNat = #[.int .i64 1, .string ⟨#[61]⟩, .func (.func 101) #[] #[], .func (.func 102) #[] #[], .func (.func 103) #[] #[], .func (.func 104) #[] #[]]) := Lib.hid (fun s => by rw [hk]; rfl)
      clear hk
      go_enter Tryz.func13, Tryz.ntmps13
      go_wp2_with fail
      rw [← HWE.out]
      refine HFO.out.mono ?_
      rintro e w1 ⟨s, hs, hf, rfl, hb1⟩
      rw [HA.out]
      have HB1 := Lib.hid hb1
      clear hf hb1 hs c0 c1 c2 c3 c4 c5 c6 c7
      have hlt1 : w.heap.size < w1.heap.size := by have := HB1.out.size; have := HZW.out; omega
      have hne1 : w.heap.size ≠ w1.heap.size := by omega
      obtain ⟨c0, c1, c2, c3, c4, c5, c6, c7⟩ := HCX.out w1 HB1.out
      go_wp2_with fail
      obtain ⟨V, hVe⟩ : ∃ V, V = w1.alloc (.cells #[.int .i64 1, .string ⟨#[61]⟩, .func (.func 101) #[] #[], .func (.func 102) #[] #[], .func (.func 103) #[] #[], .func (.func 104) #[] #[]] 75) := ⟨_, rfl⟩
      have hbV : Below w1.heap.size w1 V := by rw [hVe]; exact (Below.refl _ _).alloc (Nat.le_refl _) _
      rw [← hVe]
      have HBV := Lib.hid (HB1.out.trans (hbV.mono HB1.out.size))
      clear hVe hbV
      refine (HPT.out V ⟨#[61]⟩ HBV.out).mono ?_
      rintro e w2 ⟨v, rfl, hown, hb2⟩
      obtain ⟨g, cv, rfl, _⟩ := strRow_at (ps := [termT c.l.data.toList, [61], termT c.r.data.toList]) hown (by simp)
      have HOW := Lib.hid hown
      have HB2 := Lib.hid (HBV.out.trans (hb2.mono HBV.out.size))
      clear hown hb2
      go_wp2_with fail
      refine (implJoin_any g cv V.heap.size [termT c.l.data.toList, [61], termT c.r.data.toList] ⟨#[32]⟩ w2 HOW.out (by simp) HLN.out (by decide)).mono ?_
      rintro e w3 ⟨rfl, hb3⟩
      have HB3 := Lib.hid (HB2.out.trans (hb3.mono HB2.out.size))
      clear hb3
      go_wp2_with fail
      go_ret
      exact ⟨congrArg (fun z => Ending.returned (.string z)) (by rw [HJB.out]; exact congrArg strL HJN.out), HB0.out.trans (HB3.out.mono HB0.out.size)⟩
    · have HJB : Hid (fmtX c = Lib.join [termT c.l.data.toList, [33, 61], termT c.r.data.toList] [32]) := Lib.hid (by rw [hbody, join3]; simp [bodyT, Cx.cn, hk])
      have hln : Lib.lens [termT c.l.data.toList, [33, 61], termT c.r.data.toList] ≤ 1048576 := by rw [lens3]; have := termT_le (l := c.l.data.toList) (by simpa using hsl); have := termT_le (l := c.r.data.toList) (by simpa using hsr); simp only [List.length_cons, List.length_nil]; omega
      have hjl : (Lib.join [termT c.l.data.toList, [33, 61], termT c.r.data.toList] [32]).length ≤ 1048576 := by
        rw [join3]
        have := hln
        rw [lens3] at this
        have hq : Lib.lens [termT c.l.data.toList, [33, 61], termT c.r.data.toList] ≤ 200 := by rw [lens3]; have := termT_le (l := c.l.data.toList) (by simpa using hsl); have := termT_le (l := c.r.data.toList) (by simpa using hsr); simp only [List.length_cons, List.length_nil]; omega
        rw [lens3] at hq
        simp only [List.length_append, List.length_cons, List.length_nil] at hq ⊢
        omega
      have HJN := Lib.hid (joined_yes hjl)
      have HLN := Lib.hid hln
      clear hln hjl hbody
      have HA : Hid (∀ s, formArr s c.k.toNat = #[.int .i64 2, .string ⟨#[33, 61]⟩, .func (.func 101) #[] #[], .func (.func 164) #[] #[.pointer (some ⟨s, 0, none⟩)], .func (.func 103) #[] #[], .func (.func 104) #[] #[]]) := Lib.hid (fun s => by rw [hk]; rfl)
      clear hk
      go_enter Tryz.func13, Tryz.ntmps13
      go_wp2_with fail
      rw [← HWE.out]
      refine HFO.out.mono ?_
      rintro e w1 ⟨s, hs, hf, rfl, hb1⟩
      rw [HA.out]
      have HB1 := Lib.hid hb1
      clear hf hb1 hs c0 c1 c2 c3 c4 c5 c6 c7
      have hlt1 : w.heap.size < w1.heap.size := by have := HB1.out.size; have := HZW.out; omega
      have hne1 : w.heap.size ≠ w1.heap.size := by omega
      obtain ⟨c0, c1, c2, c3, c4, c5, c6, c7⟩ := HCX.out w1 HB1.out
      go_wp2_with fail
      obtain ⟨V, hVe⟩ : ∃ V, V = w1.alloc (.cells #[.int .i64 2, .string ⟨#[33, 61]⟩, .func (.func 101) #[] #[], .func (.func 164) #[] #[.pointer (some ⟨s, 0, none⟩)], .func (.func 103) #[] #[], .func (.func 104) #[] #[]] 75) := ⟨_, rfl⟩
      have hbV : Below w1.heap.size w1 V := by rw [hVe]; exact (Below.refl _ _).alloc (Nat.le_refl _) _
      rw [← hVe]
      have HBV := Lib.hid (HB1.out.trans (hbV.mono HB1.out.size))
      clear hVe hbV
      refine (HPT.out V ⟨#[33, 61]⟩ HBV.out).mono ?_
      rintro e w2 ⟨v, rfl, hown, hb2⟩
      obtain ⟨g, cv, rfl, _⟩ := strRow_at (ps := [termT c.l.data.toList, [33, 61], termT c.r.data.toList]) hown (by simp)
      have HOW := Lib.hid hown
      have HB2 := Lib.hid (HBV.out.trans (hb2.mono HBV.out.size))
      clear hown hb2
      go_wp2_with fail
      refine (implJoin_any g cv V.heap.size [termT c.l.data.toList, [33, 61], termT c.r.data.toList] ⟨#[32]⟩ w2 HOW.out (by simp) HLN.out (by decide)).mono ?_
      rintro e w3 ⟨rfl, hb3⟩
      have HB3 := Lib.hid (HB2.out.trans (hb3.mono HB2.out.size))
      clear hb3
      go_wp2_with fail
      go_ret
      exact ⟨congrArg (fun z => Ending.returned (.string z)) (by rw [HJB.out]; exact congrArg strL HJN.out), HB0.out.trans (HB3.out.mono HB0.out.size)⟩
    · obtain ⟨_, _, tx, _⟩ := valid_lang HVA.out (.inl hk)
      simp only [Cx.cn] at tx
      have hfl := format_len c.xk c.xl c.xa (by have := valid_size9 tx; omega)
      have HTX := Lib.hid (show formatRx c.xk c.xl c.xa = ndTxt (c.xk, c.xl, c.xa) from if_pos tx)
      have HJB : Hid (fmtX c = Lib.join [termT c.l.data.toList, [105, 110], formatRx c.xk c.xl c.xa] [32]) := Lib.hid (by rw [hbody, join3]; simp [bodyT, Cx.cn, hk, HTX.out])
      have hln : Lib.lens [termT c.l.data.toList, [105, 110], formatRx c.xk c.xl c.xa] ≤ 1048576 := by rw [lens3]; have := termT_le (l := c.l.data.toList) (by simpa using hsl); simp only [List.length_cons, List.length_nil]; omega
      have hjl : (Lib.join [termT c.l.data.toList, [105, 110], formatRx c.xk c.xl c.xa] [32]).length ≤ 1048576 := by
        rw [join3]
        have := hln
        rw [lens3] at this
        have hq : Lib.lens [termT c.l.data.toList, [105, 110], formatRx c.xk c.xl c.xa] ≤ 200 := by rw [lens3]; have := termT_le (l := c.l.data.toList) (by simpa using hsl); simp only [List.length_cons, List.length_nil]; omega
        rw [lens3] at hq
        simp only [List.length_append, List.length_cons, List.length_nil] at hq ⊢
        omega
      have HJN := Lib.hid (joined_yes hjl)
      have HLN := Lib.hid hln
      clear hln hjl hbody hfl tx
      have HA : Hid (∀ s, formArr s c.k.toNat = #[.int .i64 3, .string ⟨#[105, 110]⟩, .func (.func 106) #[] #[], .func (.func 107) #[] #[], .func (.func 108) #[] #[], .func (.func 109) #[] #[]]) := Lib.hid (fun s => by rw [hk]; rfl)
      clear hk
      go_enter Tryz.func13, Tryz.ntmps13
      go_wp2_with fail
      rw [← HWE.out]
      refine HFO.out.mono ?_
      rintro e w1 ⟨s, hs, hf, rfl, hb1⟩
      rw [HA.out]
      have HB1 := Lib.hid hb1
      clear hf hb1 hs c0 c1 c2 c3 c4 c5 c6 c7
      have hlt1 : w.heap.size < w1.heap.size := by have := HB1.out.size; have := HZW.out; omega
      have hne1 : w.heap.size ≠ w1.heap.size := by omega
      obtain ⟨c0, c1, c2, c3, c4, c5, c6, c7⟩ := HCX.out w1 HB1.out
      go_wp2_with fail
      obtain ⟨V, hVe⟩ : ∃ V, V = w1.alloc (.cells #[.int .i64 3, .string ⟨#[105, 110]⟩, .func (.func 106) #[] #[], .func (.func 107) #[] #[], .func (.func 108) #[] #[], .func (.func 109) #[] #[]] 75) := ⟨_, rfl⟩
      have hbV : Below w1.heap.size w1 V := by rw [hVe]; exact (Below.refl _ _).alloc (Nat.le_refl _) _
      rw [← hVe]
      have HBV := Lib.hid (HB1.out.trans (hbV.mono HB1.out.size))
      clear hVe hbV
      refine (HPR.out V ⟨#[105, 110]⟩ HBV.out).mono ?_
      rintro e w2 ⟨v, rfl, hown, hb2⟩
      obtain ⟨g, cv, rfl, _⟩ := strRow_at (ps := [termT c.l.data.toList, [105, 110], formatRx c.xk c.xl c.xa]) hown (by simp)
      have HOW := Lib.hid hown
      have HB2 := Lib.hid (HBV.out.trans (hb2.mono HBV.out.size))
      clear hown hb2
      go_wp2_with fail
      refine (implJoin_any g cv V.heap.size [termT c.l.data.toList, [105, 110], formatRx c.xk c.xl c.xa] ⟨#[32]⟩ w2 HOW.out (by simp) HLN.out (by decide)).mono ?_
      rintro e w3 ⟨rfl, hb3⟩
      have HB3 := Lib.hid (HB2.out.trans (hb3.mono HB2.out.size))
      clear hb3
      go_wp2_with fail
      go_ret
      exact ⟨congrArg (fun z => Ending.returned (.string z)) (by rw [HJB.out]; exact congrArg strL HJN.out), HB0.out.trans (HB3.out.mono HB0.out.size)⟩
    · obtain ⟨_, _, tx, _⟩ := valid_lang HVA.out (.inr hk)
      simp only [Cx.cn] at tx
      have hfl := format_len c.xk c.xl c.xa (by have := valid_size9 tx; omega)
      have HTX := Lib.hid (show formatRx c.xk c.xl c.xa = ndTxt (c.xk, c.xl, c.xa) from if_pos tx)
      have HJB : Hid (fmtX c = Lib.join [termT c.l.data.toList, [111, 117, 116], formatRx c.xk c.xl c.xa] [32]) := Lib.hid (by rw [hbody, join3]; simp [bodyT, Cx.cn, hk, HTX.out])
      have hln : Lib.lens [termT c.l.data.toList, [111, 117, 116], formatRx c.xk c.xl c.xa] ≤ 1048576 := by rw [lens3]; have := termT_le (l := c.l.data.toList) (by simpa using hsl); simp only [List.length_cons, List.length_nil]; omega
      have hjl : (Lib.join [termT c.l.data.toList, [111, 117, 116], formatRx c.xk c.xl c.xa] [32]).length ≤ 1048576 := by
        rw [join3]
        have := hln
        rw [lens3] at this
        have hq : Lib.lens [termT c.l.data.toList, [111, 117, 116], formatRx c.xk c.xl c.xa] ≤ 200 := by rw [lens3]; have := termT_le (l := c.l.data.toList) (by simpa using hsl); simp only [List.length_cons, List.length_nil]; omega
        rw [lens3] at hq
        simp only [List.length_append, List.length_cons, List.length_nil] at hq ⊢
        omega
      have HJN := Lib.hid (joined_yes hjl)
      have HLN := Lib.hid hln
      clear hln hjl hbody hfl tx
      have HA : Hid (∀ s, formArr s c.k.toNat = #[.int .i64 4, .string ⟨#[111, 117, 116]⟩, .func (.func 106) #[] #[], .func (.func 164) #[] #[.pointer (some ⟨s + 1, 0, none⟩)], .func (.func 108) #[] #[], .func (.func 109) #[] #[]]) := Lib.hid (fun s => by rw [hk]; rfl)
      clear hk
      go_enter Tryz.func13, Tryz.ntmps13
      go_wp2_with fail
      rw [← HWE.out]
      refine HFO.out.mono ?_
      rintro e w1 ⟨s, hs, hf, rfl, hb1⟩
      rw [HA.out]
      have HB1 := Lib.hid hb1
      clear hf hb1 hs c0 c1 c2 c3 c4 c5 c6 c7
      have hlt1 : w.heap.size < w1.heap.size := by have := HB1.out.size; have := HZW.out; omega
      have hne1 : w.heap.size ≠ w1.heap.size := by omega
      obtain ⟨c0, c1, c2, c3, c4, c5, c6, c7⟩ := HCX.out w1 HB1.out
      go_wp2_with fail
      obtain ⟨V, hVe⟩ : ∃ V, V = w1.alloc (.cells #[.int .i64 4, .string ⟨#[111, 117, 116]⟩, .func (.func 106) #[] #[], .func (.func 164) #[] #[.pointer (some ⟨s + 1, 0, none⟩)], .func (.func 108) #[] #[], .func (.func 109) #[] #[]] 75) := ⟨_, rfl⟩
      have hbV : Below w1.heap.size w1 V := by rw [hVe]; exact (Below.refl _ _).alloc (Nat.le_refl _) _
      rw [← hVe]
      have HBV := Lib.hid (HB1.out.trans (hbV.mono HB1.out.size))
      clear hVe hbV
      refine (HPR.out V ⟨#[111, 117, 116]⟩ HBV.out).mono ?_
      rintro e w2 ⟨v, rfl, hown, hb2⟩
      obtain ⟨g, cv, rfl, _⟩ := strRow_at (ps := [termT c.l.data.toList, [111, 117, 116], formatRx c.xk c.xl c.xa]) hown (by simp)
      have HOW := Lib.hid hown
      have HB2 := Lib.hid (HBV.out.trans (hb2.mono HBV.out.size))
      clear hown hb2
      go_wp2_with fail
      refine (implJoin_any g cv V.heap.size [termT c.l.data.toList, [111, 117, 116], formatRx c.xk c.xl c.xa] ⟨#[32]⟩ w2 HOW.out (by simp) HLN.out (by decide)).mono ?_
      rintro e w3 ⟨rfl, hb3⟩
      have HB3 := Lib.hid (HB2.out.trans (hb3.mono HB2.out.size))
      clear hb3
      go_wp2_with fail
      go_ret
      exact ⟨congrArg (fun z => Ending.returned (.string z)) (by rw [HJB.out]; exact congrArg strL HJN.out), HB0.out.trans (HB3.out.mono HB0.out.size)⟩
    · obtain ⟨_, _, _, ⟨na, nd, ne, hcs, ha, hd, he⟩, hb1, hb2⟩ := valid_len HVA.out hk
      simp only [Cx.cn] at hcs hb1 hb2
      have HPL := Lib.hid (fun (V : World) (hb : Below W.heap.size W V) => (partsLen_any c _ _ ⟨#[108, 101, 110]⟩ na nd ne V (HCN.out V hb) hcs ha hd he ⟨hb1, hb2⟩ (HP.out V hb)))
      have i1 := small_itoa (n := na) (by omega) (by omega)
      have i2 := small_itoa (n := nd) (by omega) (by omega)
      have i3 := small_itoa (n := ne) (by omega) (by omega)
      have i4 := small_itoa (n := c.b) (by omega) (by omega)
      have HJB : Hid (fmtX c = Lib.join [[108, 101, 110], Lib.itoa na, Lib.itoa nd, Lib.itoa ne, Lib.itoa c.b] [32]) := Lib.hid (by rw [hbody, join5]; simp [bodyT, Cx.cn, hk, hcs, numsT])
      have hln : Lib.lens [[108, 101, 110], Lib.itoa na, Lib.itoa nd, Lib.itoa ne, Lib.itoa c.b] ≤ 1048576 := by rw [lens5]; simp only [List.length_cons, List.length_nil]; omega
      have hjl : (Lib.join [[108, 101, 110], Lib.itoa na, Lib.itoa nd, Lib.itoa ne, Lib.itoa c.b] [32]).length ≤ 1048576 := by
        rw [join5]
        have := hln
        rw [lens5] at this
        have hq : Lib.lens [[108, 101, 110], Lib.itoa na, Lib.itoa nd, Lib.itoa ne, Lib.itoa c.b] ≤ 200 := by rw [lens5]; simp only [List.length_cons, List.length_nil]; omega
        rw [lens5] at hq
        simp only [List.length_append, List.length_cons, List.length_nil] at hq ⊢
        omega
      have HJN := Lib.hid (joined_yes hjl)
      have HLN := Lib.hid hln
      clear hln hjl hbody hcs ha hd he hb1 hb2 i1 i2 i3 i4
      have HA : Hid (∀ s, formArr s c.k.toNat = #[.int .i64 5, .string ⟨#[108, 101, 110]⟩, .func (.func 110) #[] #[], .func (.func 111) #[] #[], .func (.func 112) #[] #[], .func (.func 113) #[] #[]]) := Lib.hid (fun s => by rw [hk]; rfl)
      clear hk
      go_enter Tryz.func13, Tryz.ntmps13
      go_wp2_with fail
      rw [← HWE.out]
      refine HFO.out.mono ?_
      rintro e w1 ⟨s, hs, hf, rfl, hb1⟩
      rw [HA.out]
      have HB1 := Lib.hid hb1
      clear hf hb1 hs c0 c1 c2 c3 c4 c5 c6 c7
      have hlt1 : w.heap.size < w1.heap.size := by have := HB1.out.size; have := HZW.out; omega
      have hne1 : w.heap.size ≠ w1.heap.size := by omega
      obtain ⟨c0, c1, c2, c3, c4, c5, c6, c7⟩ := HCX.out w1 HB1.out
      go_wp2_with fail
      obtain ⟨V, hVe⟩ : ∃ V, V = w1.alloc (.cells #[.int .i64 5, .string ⟨#[108, 101, 110]⟩, .func (.func 110) #[] #[], .func (.func 111) #[] #[], .func (.func 112) #[] #[], .func (.func 113) #[] #[]] 75) := ⟨_, rfl⟩
      have hbV : Below w1.heap.size w1 V := by rw [hVe]; exact (Below.refl _ _).alloc (Nat.le_refl _) _
      rw [← hVe]
      have HBV := Lib.hid (HB1.out.trans (hbV.mono HB1.out.size))
      clear hVe hbV
      refine (HPL.out V HBV.out).mono ?_
      rintro e w2 ⟨v, rfl, hown, hb2⟩
      obtain ⟨g, cv, rfl, _⟩ := strRow_at (ps := [[108, 101, 110], Lib.itoa na, Lib.itoa nd, Lib.itoa ne, Lib.itoa c.b]) hown (by simp)
      have HOW := Lib.hid hown
      have HB2 := Lib.hid (HBV.out.trans (hb2.mono HBV.out.size))
      clear hown hb2
      go_wp2_with fail
      refine (implJoin_any g cv V.heap.size [[108, 101, 110], Lib.itoa na, Lib.itoa nd, Lib.itoa ne, Lib.itoa c.b] ⟨#[32]⟩ w2 HOW.out (by simp) HLN.out (by decide)).mono ?_
      rintro e w3 ⟨rfl, hb3⟩
      have HB3 := Lib.hid (HB2.out.trans (hb3.mono HB2.out.size))
      clear hb3
      go_wp2_with fail
      go_ret
      exact ⟨congrArg (fun z => Ending.returned (.string z)) (by rw [HJB.out]; exact congrArg strL HJN.out), HB0.out.trans (HB3.out.mono HB0.out.size)⟩
end Go.Proofs.YtppliiingoonlaaGreatDoor

/-
  What impl.FormatProblem answers.
-/
namespace Go.Proofs.YtppliiingoonlaaGreatDoor
open Go.RowKit

theorem strL_nl2 (x y : List UInt8) : Value.string (strL x ++ (strL y ++ ⟨#[10]⟩)) = .string (strL (x ++ (y ++ [10]))) := by
  rw [strL_app y [10] (t := ⟨#[10]⟩) rfl, strL_app x _ (strL_list _)]

set_option maxRecDepth 100000 in
set_option maxHeartbeats 6400000 in
theorem implFmtP_any (ps : List Cx) (v : Value) (w : World) (h : PrO w v ps) (hsz : ∀ c ∈ ps, c.xa.size ≤ 2097152) (hp : Pow10 w) :
    Calls Tryz.prog 28 #[.agg #[v]] w fun e w' => e = .returned (.string (strL (fmtP ps))) ∧ Below w.heap.size w w' := by
  obtain ⟨hl, A, m, rfl⟩ := h.shape
  unfold maxI at hl
  obtain ⟨W, hW⟩ : ∃ W, W = w.alloc (.cells #[.slice A ps.length m] 45) := ⟨_, rfl⟩
  have hb0 : Below w.heap.size w W := by rw [hW]; exact (Below.refl _ _).alloc (Nat.le_refl _) _
  have hbx : BoxP W w.heap.size (.slice A ps.length m) := by rw [hW]; exact boxP_new w _ _
  have HWE := Lib.hid hW
  have HB0 := Lib.hid hb0
  have HBX := Lib.hid (fun (V : World) (hb : Below W.heap.size W V) => (hbx.kept hb).cell)
  have HE := Lib.hid (fun (V : World) (hb : Below W.heap.size W V) (j : Nat) (hj : j < ps.length) => PrR.at ((h.kept hb0).kept hb) hj)
  have HVP := Lib.hid (implVP_any ps _ W (h.kept hb0) hsz)
  have HSZ := Lib.hid hsz
  have HPW := Lib.hid (fun (V : World) (hb : Below W.heap.size W V) => hp.below (hb0.trans (hb.mono hb0.size)))
  have hbc := hbx.cell
  rw [hW] at hbc
  clear hW hbx h hsz hb0
  cases hv : validP ps with
  | false =>
    rw [hv] at HVP
    have HR := Lib.hid (show fmtP ps = [] by unfold fmtP; rw [hv]; rfl)
    clear hv
    go_enter Tryz.func28, Tryz.ntmps28
    go_wp2_with fail
    rw [← HWE.out]
    refine HVP.out.mono ?_
    rintro e w1 ⟨rfl, hb1⟩
    have HB1 := Lib.hid (HB0.out.trans (hb1.mono HB0.out.size))
    clear hb1
    go_wp2_with fail
    go_ret
    exact ⟨by rw [HR.out]; rfl, HB1.out⟩
  | true =>
    rw [hv] at HVP
    have h6 := (validP_iff.1 hv).2
    have hlen := fm_len (fun c => fmtX c ++ [10]) 201 (ps := ps) (fun c _ => fmtN_len c)
    have HLN := Lib.hid hlen
    have HR := Lib.hid (show fmtP ps = fm (fun c => fmtX c ++ [10]) ps ps.length by unfold fmtP; rw [if_pos hv, fm_all])
    clear hv hlen
    go_enter Tryz.func28, Tryz.ntmps28
    go_wp2_with fail
    rw [← HWE.out]
    refine HVP.out.mono ?_
    rintro e w1 ⟨rfl, hb1⟩
    have HB1 := Lib.hid hb1
    have hbc1 := HBX.out w1 hb1
    clear hb1 hbc
    go_wp2_with fail
    go_loopw [3, 12] (fun s i wr => ∃ (j : Nat) (x : List UInt8), i = .int .i64 j ∧ s = .string (strL x) ∧ Hid (x = fm (fun c => fmtX c ++ [10]) ps j) ∧ j ≤ ps.length ∧ Below W.heap.size W wr) (fun _ i _ => ps.length - (intOf i).toNat)
    case atStart => exact ⟨0, [], rfl, rfl, Lib.hid (fm_zero _ _).symm, Nat.zero_le _, HB1.out⟩
    case round =>
      obtain ⟨j, x, rfl, rfl, HX, hj, hb⟩ := hrel
      have HB := Lib.hid hb
      have hxl : (strL x).size ≤ 1206 := by
        rw [strL_size, HX.out]
        have := HLN.out j hj
        omega
      clear hb hbc1
      by_cases hlt : j < ps.length
      · obtain ⟨g, o, rfl, c, xu, vc, hx, ha, hc⟩ := HE.out wr HB.out j hlt
        obtain ⟨A1, m1, B1, r1, rfl, rfl⟩ := hc.shape
        have hlt' : (j : Int) < ps.length := by omega
        obtain ⟨w2, hw2⟩ : ∃ w2, w2 = wr.alloc (.cells #[.int .i64 c.k, .string c.l, .string c.r, .int .i64 c.xk, .string c.xl, .slice A1 c.xa.items.length m1, .slice B1 c.cs.length r1, .int .i64 c.b] 29) := ⟨_, rfl⟩
        have hb2 : Below wr.heap.size wr w2 := by rw [hw2]; exact (Below.refl _ _).alloc (Nat.le_refl _) _
        have HI := Lib.hid (implFmtC_any c _ _ w2 (hc.kept hb2) (HSZ.out c (List.mem_of_getElem? hx)) (HPW.out w2 (HB.out.trans (hb2.mono HB.out.size))))
        have HN := Lib.hid (fm_step (fun c => fmtX c ++ [10]) hx)
        have hyl : (strL (fmtX c)).size ≤ 200 := by rw [strL_size]; exact fmtX_len' c
        obtain ⟨y, hy⟩ : ∃ y, y = fmtX c := ⟨_, rfl⟩
        simp only [← hy] at HI HN hyl
        obtain ⟨c0, c1, c2, c3, c4, c5, c6, c7⟩ := ha
        have HB2 := Lib.hid (HB.out.trans (hb2.mono HB.out.size))
        have HW2 := Lib.hid hw2
        clear hc hx hy hb2 hw2
        go_wp2_with fail
        rw [← HW2.out]
        refine HI.out.mono ?_
        rintro e w3 ⟨rfl, hb3⟩
        have HB3 := Lib.hid (HB2.out.trans (hb3.mono HB2.out.size))
        clear hb3 c0 c1 c2 c3 c4 c5 c6 c7
        go_wp2_with fail
        go_roundw
        case rel => exact ⟨j + 1, x ++ (y ++ [10]), by go_num, strL_nl2 x y, Lib.hid (by rw [HN.out, HX.out]), by omega, HB3.out⟩
        case measure => simp [intOf]; omega
      · obtain rfl : j = ps.length := by omega
        have HRY := Lib.hid (show fmtP ps = x by rw [HR.out, HX.out])
        go_wp2_with fail
        go_ret
        exact ⟨congrArg (fun z => Ending.returned (.string (strL z))) HRY.out.symm, HB0.out.trans (HB.out.mono HB0.out.size)⟩
end Go.Proofs.YtppliiingoonlaaGreatDoor

/-
  What spec.ValueOf, spec.WithValue and spec.IsValues answer.
-/
namespace Go.Proofs.YtppliiingoonlaaGreatDoor
open Go.RowKit
theorem newAt (w : World) (o o' : Obj) : ((w.alloc o).alloc o').heap[w.heap.size + 1]? = some o' := by
  have h := heap_alloc_new (w.alloc o) o'
  rwa [World.size_alloc] at h

set_option maxRecDepth 100000 in
theorem specVal_any (x y z : ByteArray) (b : UInt8) (w : World) :
    Calls Tryz.prog 90 #[.agg #[.string x, .string y, .string z], .int .u8 b.toNat] w fun e w' => e = .returned (.string (valB x y z b)) ∧ Below w.heap.size w w' := by
  have hb := Lib.hid ((Below.refl w.heap.size w).alloc (Nat.le_refl _) (.cells #[.string x, .string y, .string z] 38))
  by_cases h0 : b = 88
  · subst h0
    go_enter Tryz.func90, Tryz.ntmps90
    go_wp2
    go_ret
    exact ⟨rfl, hb.out⟩
  by_cases h1 : b = 89
  · subst h1
    go_enter Tryz.func90, Tryz.ntmps90
    go_wp2
    go_ret
    exact ⟨rfl, hb.out⟩
  by_cases h2 : b = 90
  · subst h2
    go_enter Tryz.func90, Tryz.ntmps90
    go_wp2
    go_ret
    exact ⟨rfl, hb.out⟩
  have HE := Lib.hid (show valB x y z b = ⟨#[]⟩ by unfold valB; rw [if_neg h0, if_neg h1, if_neg h2])
  have n0 : ¬ ((b.toNat : Int) = 88) := fun e => h0 (UInt8.toNat_inj.1 (show b.toNat = 88 by omega))
  have n1 : ¬ ((b.toNat : Int) = 89) := fun e => h1 (UInt8.toNat_inj.1 (show b.toNat = 89 by omega))
  have n2 : ¬ ((b.toNat : Int) = 90) := fun e => h2 (UInt8.toNat_inj.1 (show b.toNat = 90 by omega))
  clear h0 h1 h2
  go_enter Tryz.func90, Tryz.ntmps90
  go_wp2
  go_ret
  exact ⟨by rw [HE.out]; rfl, hb.out⟩

set_option maxRecDepth 100000 in
theorem specIsV_any (x y z : ByteArray) (w : World) (hx : x.size ≤ maxLen) (hy : y.size ≤ maxLen) (hz : z.size ≤ maxLen) :
    Calls Tryz.prog 26 #[.agg #[.string x, .string y, .string z]] w fun e w' => e = .returned (.bool (isV x y z)) ∧ Below w.heap.size w w' := by
  have hb := Lib.hid ((Below.refl w.heap.size w).alloc (Nat.le_refl _) (.cells #[.string x, .string y, .string z] 38))
  have HX := Lib.hid (fun w => specIsWord_any x w hx)
  have HY := Lib.hid (fun w => specIsWord_any y w hy)
  have HZ := Lib.hid (fun w => specIsWord_any z w hz)
  clear hx hy hz
  unfold isV
  generalize isW x.data.toList = p at *
  generalize isW y.data.toList = q at *
  generalize isW z.data.toList = r at *
  cases p with
  | false =>
    go_enter Tryz.func26, Tryz.ntmps26
    go_wp2_with (go_at_call 74; refine (HX.out _).mono ?_; rintro e w' ⟨rfl, rfl⟩)
    go_ret
    exact ⟨rfl, hb.out⟩
  | true =>
    cases q with
    | false =>
      go_enter Tryz.func26, Tryz.ntmps26
      go_wp2_with (go_at_call 74; first | (with_reducible refine (HX.out _).mono ?_; rintro e w' ⟨rfl, rfl⟩) | (with_reducible refine (HY.out _).mono ?_; rintro e w' ⟨rfl, rfl⟩))
      go_ret
      exact ⟨rfl, hb.out⟩
    | true =>
      go_enter Tryz.func26, Tryz.ntmps26
      go_wp2_with (go_at_call 74; first | (with_reducible refine (HX.out _).mono ?_; rintro e w' ⟨rfl, rfl⟩) | (with_reducible refine (HY.out _).mono ?_; rintro e w' ⟨rfl, rfl⟩) | (refine (HZ.out _).mono ?_; rintro e w' ⟨rfl, rfl⟩))
      go_ret
      exact ⟨rfl, hb.out⟩
end Go.Proofs.YtppliiingoonlaaGreatDoor

/-
  What the laws' own helpers answer over values: szValues, toValues, eqValues; values that come in as an argument.
-/
namespace Go.Proofs.YtppliiingoonlaaGreatDoor
open Go.ChangeShapes Go.WideShapes Go.RowKit
set_option maxRecDepth 100000 in
theorem szVal_no (x y z : ByteArray) (w : World) (hx : x.size ≤ maxLen) (hy : y.size ≤ maxLen) (hz : z.size ≤ maxLen) (h : ¬ x.size + y.size + z.size ≤ 1048576) :
    Calls Tryz.prog 44 #[.agg #[.string x, .string y, .string z], .int .i64 1048576] w fun e w' => e = .returned (.int .i64 (-1)) ∧ Below w.heap.size w w' := by
  unfold maxLen at hx hy hz
  have hb := Lib.hid ((Below.refl w.heap.size w).alloc (Nat.le_refl _) (.cells #[.string x, .string y, .string z] 61))
  by_cases h0 : x.size ≤ 1048576
  · by_cases h1 : x.size + y.size ≤ 1048576
    · go_enter Tryz.func44, Tryz.ntmps44
      go_wp2
      go_ret
      exact ⟨rfl, hb.out⟩
    · go_enter Tryz.func44, Tryz.ntmps44
      go_wp2
      go_ret
      exact ⟨rfl, hb.out⟩
  · go_enter Tryz.func44, Tryz.ntmps44
    go_wp2
    go_ret
    exact ⟨rfl, hb.out⟩
set_option maxRecDepth 100000 in
theorem szVal_yes (x y z : ByteArray) (w : World) (h : x.size + y.size + z.size ≤ 1048576) :
    Calls Tryz.prog 44 #[.agg #[.string x, .string y, .string z], .int .i64 1048576] w fun e w' => (∃ n : Int, e = .returned (.int .i64 n) ∧ 0 ≤ n) ∧ Below w.heap.size w w' := by
  have hb := Lib.hid ((Below.refl w.heap.size w).alloc (Nat.le_refl _) (.cells #[.string x, .string y, .string z] 61))
  go_enter Tryz.func44, Tryz.ntmps44
  go_wp2
  go_ret
  exact ⟨⟨_, rfl, by omega⟩, hb.out⟩
theorem thirdAt (w : World) (o1 o2 o3 : Obj) : (((w.alloc o1).alloc o2).alloc o3).heap[w.heap.size + 1]? = some o2 := (Below.heap_alloc _ _ _ (by simp)).trans (newAt w o1 o2)
set_option maxRecDepth 100000 in
theorem toVal_any (x y z : ByteArray) (w : World) :
    Calls Tryz.prog 46 #[.agg #[.string x, .string y, .string z]] w fun e w' => e = .returned (.agg #[.string x, .string y, .string z]) ∧ Below w.heap.size w w' := by
  have hb : ∀ o1 o2 o3, Below w.heap.size w (((w.alloc o1).alloc o2).alloc o3) := fun o1 o2 o3 => (((Below.refl w.heap.size w).alloc (Nat.le_refl _) o1).alloc (by simp) o2).alloc (by simp; omega) o3
  have hb := Lib.hid hb
  have c0 := fun (o o3 : Obj) (a b c : ByteArray) => cell_of_row _ (w.heap.size + 1) 0 _ _ (0, 0) (thirdAt w o (.cells #[.string a, .string b, .string c] 38) o3)
  have c1 := fun (o o3 : Obj) (a b c : ByteArray) => cell_of_row _ (w.heap.size + 1) 1 _ _ (0, 0) (thirdAt w o (.cells #[.string a, .string b, .string c] 38) o3)
  have c2 := fun (o o3 : Obj) (a b c : ByteArray) => cell_of_row _ (w.heap.size + 1) 2 _ _ (0, 0) (thirdAt w o (.cells #[.string a, .string b, .string c] 38) o3)
  have CC := Lib.hid (And.intro c0 (And.intro c1 c2))
  clear c0 c1 c2
  go_enter Tryz.func46, Tryz.ntmps46
  go_wp2
  refine bodyPost_ret (v := .agg #[.string x, .string y, .string z]) (by simp [results, Tryz.results46, go_sem, CC.out]) rfl ⟨rfl, hb.out _ _ _⟩
section
variable {H : Type} {enc : TypeId × Value → H} {w : World}
set_option maxRecDepth 100000 in
/-- Values handed in. -/
theorem open_vals {r : Reach} {b0 : Nat} {v : Value} {d : DataW H} {p : List MemPlace} (hv : Value.okWide Tryz.prog w r b0 61 v) (h : DataW.Trod enc Tryz.prog w 0 (fun _ => true) true 61 v d p) :
    ∃ x y z : ByteArray, v = .agg #[.string x, .string y, .string z] ∧ d = .agg [.lit (.string x.data.toList), .lit (.string y.data.toList), .lit (.string z.data.toList)] ∧ x.size ≤ maxLen ∧ y.size ≤ maxLen ∧ z.size ≤ maxLen := by
  obtain ⟨v0, v1, v2, y0, y1, y2, n, rfl, rfl, rfl, h0, h1, h2⟩ := Go.Joins.open_agg3 Tryz.underlying61 (by kernel_rfl) (by kernel_rfl) hv h
  obtain ⟨x, e0, f0, hx⟩ := DataW.trod_string Tryz.underlying9 h0
  obtain ⟨y, e1, f1, hy⟩ := DataW.trod_string Tryz.underlying9 h1
  obtain ⟨z, e2, f2, hz⟩ := DataW.trod_string Tryz.underlying9 h2
  simp at e0 e1 e2
  subst e0 e1 e2 f0 f1 f2
  exact ⟨x, y, z, rfl, rfl, hx, hy, hz⟩
end
end Go.Proofs.YtppliiingoonlaaGreatDoor

/-
  What laws.szValues answers: what is left of a number behind the letters of three words, or -1.
-/
namespace Go.Proofs.YtppliiingoonlaaGreatDoor
open Go.RowKit

set_option maxRecDepth 100000 in
set_option maxHeartbeats 3200000 in
theorem szV_any (x y t : ByteArray) (z : Int) (w : World) (hx : x.size ≤ maxLen) (hy : y.size ≤ maxLen) (ht : t.size ≤ maxLen) (hz0 : 0 ≤ z) (hz1 : z ≤ 1048576) :
    Calls Tryz.prog 44 #[.agg #[.string x, .string y, .string t], .int .i64 z] w (SzPost (x.size + y.size + t.size) z w) := by
  unfold maxLen at hx hy ht
  have hb := Lib.hid ((Below.refl w.heap.size w).alloc (Nat.le_refl _) (.cells #[.string x, .string y, .string t] 61))
  by_cases h0 : (x.size : Int) ≤ z
  · have p0 : ¬ z - (x.size : Int) < 0 := by omega
    by_cases h1 : (y.size : Int) ≤ z - (x.size : Int)
    · have p1 : ¬ z - (x.size : Int) - (y.size : Int) < 0 := by omega
      by_cases h2 : (t.size : Int) ≤ z - (x.size : Int) - (y.size : Int)
      · have p2 : ¬ z - (x.size : Int) - (y.size : Int) - (t.size : Int) < 0 := by omega
        have HR : Hid (leftOf (x.size + y.size + t.size) z = z - (x.size : Int) - (y.size : Int) - (t.size : Int)) := Lib.hid (by rw [leftOf_yes (by omega)]; omega)
        go_enter Tryz.func44, Tryz.ntmps44
        go_wp2
        go_ret
        exact ⟨congrArg (fun z : Int => Ending.returned (.int .i64 z)) HR.out.symm, hb.out⟩
      · have HR : Hid (leftOf (x.size + y.size + t.size) z = -1) := Lib.hid (leftOf_no (by omega))
        have p2 : z - (x.size : Int) - (y.size : Int) - (t.size : Int) < 0 := by omega
        go_enter Tryz.func44, Tryz.ntmps44
        go_wp2
        go_ret
        exact ⟨congrArg (fun z : Int => Ending.returned (.int .i64 z)) HR.out.symm, hb.out⟩
    · have HR : Hid (leftOf (x.size + y.size + t.size) z = -1) := Lib.hid (leftOf_no (by omega))
      have p1 : z - (x.size : Int) - (y.size : Int) < 0 := by omega
      go_enter Tryz.func44, Tryz.ntmps44
      go_wp2
      go_ret
      exact ⟨congrArg (fun z : Int => Ending.returned (.int .i64 z)) HR.out.symm, hb.out⟩
  · have HR : Hid (leftOf (x.size + y.size + t.size) z = -1) := Lib.hid (leftOf_no (by omega))
    have p0 : z - (x.size : Int) < 0 := by omega
    go_enter Tryz.func44, Tryz.ntmps44
    go_wp2
    go_ret
    exact ⟨congrArg (fun z : Int => Ending.returned (.int .i64 z)) HR.out.symm, hb.out⟩
end Go.Proofs.YtppliiingoonlaaGreatDoor

/-
  A block that holds three strings. Of no function of the program.
-/
namespace Go.Proofs.YtppliiingoonlaaGreatDoor
open Go.RowKit
/-- A block that holds three strings. -/
def Three (V : World) (g : Nat) (a b c : ByteArray) (T : TypeId) : Prop := V.heap[g]? = some (.cells #[.string a, .string b, .string c] T (0, 0))
theorem Three.cells {V : World} {g : Nat} {a b c : ByteArray} {T : TypeId} (h : Three V g a b c T) : V.cell? ⟨g, 0, none⟩ = some (.string a) ∧ V.cell? ⟨g, 1, none⟩ = some (.string b) ∧ V.cell? ⟨g, 2, none⟩ = some (.string c) :=
  ⟨cell_of_row V g 0 _ _ (0, 0) h, cell_of_row V g 1 _ _ (0, 0) h, cell_of_row V g 2 _ _ (0, 0) h⟩
theorem Three.lt {V : World} {g : Nat} {a b c : ByteArray} {T : TypeId} (h : Three V g a b c T) : g < V.heap.size := (Array.getElem?_eq_some_iff.1 h).1
theorem Three.below {V V' : World} {g : Nat} {a b c : ByteArray} {T : TypeId} (h : Three V g a b c T) (hb : Below V.heap.size V V') : Three V' g a b c T := (hb.block g h.lt).trans h
theorem Three.new (V : World) (a b c : ByteArray) (T : TypeId) : Three (V.alloc (.cells #[.string a, .string b, .string c] T)) V.heap.size a b c T := heap_alloc_new V _
theorem Three.alloc {V : World} {g : Nat} {a b c : ByteArray} {T : TypeId} (h : Three V g a b c T) (o : Obj) : Three (V.alloc o) g a b c T := h.below ((Below.refl _ _).alloc (Nat.le_refl _) o)
end Go.Proofs.YtppliiingoonlaaGreatDoor

/-
  laws.FnExactIsModel answers true at every problem and all values, where both sides answer alike.
-/
namespace Go.Proofs.YtppliiingoonlaaGreatDoor
open Go.RowKit

set_option maxRecDepth 100000 in
set_option maxHeartbeats 6400000 in
theorem qxLH_law (ps : List Cx) (v : Value) (x y t : ByteArray) (a : Bool) (w : World) (h : PrV w v ps) (hx : x.size ≤ maxLen) (hy : y.size ≤ maxLen) (ht : t.size ≤ maxLen) (HS0 : wtP ps ≤ 1048576 → ∀ (V : World) (u : Value), Below w.heap.size w V → PrO V u ps → Calls Tryz.prog 45 #[.agg #[u], .agg #[.string x, .string y, .string t]] V fun e w' => e = .returned (.bool a) ∧ Below V.heap.size V w') (HI0 : wtP ps ≤ 1048576 → ∀ (V : World) (u : Value), Below w.heap.size w V → PrO V u ps → Calls Tryz.prog 47 #[.agg #[u], .agg #[.string x, .string y, .string t]] V fun e w' => e = .returned (.bool a) ∧ Below V.heap.size V w') :
    Calls Tryz.prog 7 #[.agg #[v], .agg #[.string x, .string y, .string t]] w fun e w' => e = .returned (.bool true) ∧ Below w.heap.size w w' := by
  obtain ⟨hl, A, m, rfl⟩ := h.shape
  clear hl
  obtain ⟨W1, hW1⟩ : ∃ W1, W1 = w.alloc (.cells #[.slice A ps.length m] 57) := ⟨_, rfl⟩
  have hb01 : Below w.heap.size w W1 := by rw [hW1]; exact (Below.refl _ _).alloc (Nat.le_refl _) _
  have hz1 : W1.heap.size = w.heap.size + 1 := by rw [hW1]; simp
  have hbx1 : BoxP W1 w.heap.size (.slice A ps.length m) := by rw [hW1]; exact boxP_new w _ _
  obtain ⟨W, hW⟩ : ∃ W, W = W1.alloc (.cells #[.string x, .string y, .string t] 61) := ⟨_, rfl⟩
  have hb1W : Below W1.heap.size W1 W := by rw [hW]; exact (Below.refl _ _).alloc (Nat.le_refl _) _
  have hb0 : Below w.heap.size w W := hb01.trans (hb1W.mono hb01.size)
  have hbx := hbx1.kept hb1W
  have hov : W.heap[w.heap.size + 1]? = some (.cells #[.string x, .string y, .string t] 61) := by rw [hW, hW1]; exact newAt w _ _
  have HCX := Lib.hid (fun (V : World) (hb : Below W.heap.size W V) => (hbx.kept hb).cell)
  have hs1 : w.heap.size + 1 < W.heap.size := by rw [hW]; simp; omega
  have hv0 := cell_of_row W (w.heap.size + 1) 0 _ _ (0, 0) hov
  have hv1 := cell_of_row W (w.heap.size + 1) 1 _ _ (0, 0) hov
  have hv2 := cell_of_row W (w.heap.size + 1) 2 _ _ (0, 0) hov
  have HCV : Hid (∀ V : World, Below W.heap.size W V → V.cell? ⟨w.heap.size + 1, 0, none⟩ = some (.string x) ∧ V.cell? ⟨w.heap.size + 1, 1, none⟩ = some (.string y) ∧ V.cell? ⟨w.heap.size + 1, 2, none⟩ = some (.string t)) := Lib.hid (fun V hb => ⟨(hb.cell hs1).trans hv0, (hb.cell hs1).trans hv1, (hb.cell hs1).trans hv2⟩)
  rw [hW1] at hW
  have HWE := Lib.hid hW
  have HB0 := Lib.hid hb0
  have HSZ := Lib.hid (szP_any ps _ 1048576 W (h.kept hb0) (by omega) (by omega))
  have hcW := hbx.cell
  rw [hW] at hcW
  have c0 := hcW
  clear hcW
  have hvW := HCV.out W (Below.refl _ _)
  rw [hW] at hvW
  obtain ⟨v0, v1, v2⟩ := hvW
  clear hv0 hv1 hv2 hov hs1 hz1 hb01 hb1W
  by_cases hfit : wtP ps ≤ 1048576
  · have HT := Lib.hid (fun (V : World) (hb : Below W.heap.size W V) => toP_any ps _ V (h.kept (hb0.trans (hb.mono hb0.size))) (by omega))
    have HS := Lib.hid (fun (V : World) (u : Value) (hb : Below W.heap.size W V) (hc : PrO V u ps) => HS0 hfit V u (hb0.trans (hb.mono hb0.size)) hc)
    have HI := Lib.hid (fun (V : World) (u : Value) (hb : Below W.heap.size W V) (hc : PrO V u ps) => HI0 hfit V u (hb0.trans (hb.mono hb0.size)) hc)
    obtain ⟨q, hq⟩ : ∃ q : Int, q = 1048576 - (wtP ps : Int) := ⟨_, rfl⟩
    have HQ := Lib.hid ((leftOf_yes (m := wtP ps) (z := 1048576) (by omega)).trans hq.symm)
    have hq0 : ¬ q < 0 := by omega
    have HZV := Lib.hid (fun V => szV_any x y t q V hx hy ht (by omega) (by omega))
    have hna : (a != a) = false := bne_self_eq_false _
    by_cases hfit2 : ((x.size + y.size + t.size : Nat) : Int) ≤ q
    · obtain ⟨q2, hq2⟩ : ∃ q2 : Int, q2 = q - ((x.size + y.size + t.size : Nat) : Int) := ⟨_, rfl⟩
      have HQ2 := Lib.hid ((leftOf_yes hfit2).trans hq2.symm)
      have hq20 : ¬ q2 < 0 := by omega
      clear hW hW1 hb0 hbx hbx1 h HS0 HI0 hfit hfit2 hq hq2 hx hy ht
      go_enter Tryz.func7, Tryz.ntmps7
      go_wp2_with fail
      rw [← HWE.out]
      refine HSZ.out.mono ?_
      rintro e w1 ⟨he, hb1⟩
      rw [HQ.out] at he
      subst he
      have HB1 := Lib.hid hb1
      clear hb1 c0 v0 v1 v2
      obtain ⟨v0, v1, v2⟩ := HCV.out w1 HB1.out
      go_wp2_with fail
      refine (HZV.out w1).mono ?_
      rintro e w2 ⟨he, hb2⟩
      rw [HQ2.out] at he
      subst he
      have HB2 := Lib.hid (HB1.out.trans (hb2.mono HB1.out.size))
      clear hb2 v0 v1 v2
      have c0 := HCX.out w2 HB2.out
      go_wp2_with fail
      have HK8 : Hid (∀ X, Below w2.heap.size w2 X → X.cell? ⟨w.heap.size, 0, none⟩ = some (.slice A ps.length m) ∧ X.cell? ⟨w.heap.size + 1, 0, none⟩ = some (.string x) ∧ X.cell? ⟨w.heap.size + 1, 1, none⟩ = some (.string y) ∧ X.cell? ⟨w.heap.size + 1, 2, none⟩ = some (.string t)) := Lib.hid (fun X hb => by
        have d0 := HCX.out X (HB2.out.trans (hb.mono HB2.out.size))
        obtain ⟨v0, v1, v2⟩ := HCV.out X (HB2.out.trans (hb.mono HB2.out.size))
        exact ⟨d0, v0, v1, v2⟩)
      have HTk := Lib.hid (fun (X : World) (hb : Below w2.heap.size w2 X) => HT.out X (HB2.out.trans (hb.mono HB2.out.size)))
      have HTV := Lib.hid (fun (X : World) => toVal_any x y t X)
      have HSk := Lib.hid (fun (X : World) (u' : Value) (hb : Below w2.heap.size w2 X) (hc : PrO X u' ps) => HS.out X u' (HB2.out.trans (hb.mono HB2.out.size)) hc)
      have hbw : Below w2.heap.size w2 w2 := Below.refl _ _
      clear c0
      go_region_held3 (fun X => X.cell? ⟨w.heap.size, 0, none⟩ = some (.slice A ps.length m) ∧ X.cell? ⟨w.heap.size + 1, 0, none⟩ = some (.string x) ∧ X.cell? ⟨w.heap.size + 1, 1, none⟩ = some (.string y) ∧ X.cell? ⟨w.heap.size + 1, 2, none⟩ = some (.string t)) (with_reducible first | exact HK8.out _ hbw | exact HK8.out _ hbw.drew | exact HK8.out _ hbw.drew.drew | fail) (first
        | (go_at_call 41; (with_reducible refine (HTk.out _ ?hq1).mono ?_); (case hq1 => with_reducible first | exact hbw | exact hbw.drew | exact hbw.drew.drew); rintro e wa ⟨A7, m7, rfl, ht7, hb7⟩; (with_reducible first | (have hbw := hbw.trans (hb7.mono hbw.size)) | (have hbw := hbw.drew.trans (hb7.mono hbw.drew.size)) | (have hbw := hbw.drew.drew.trans (hb7.mono hbw.drew.drew.size))); clear hb7; have hct := Lib.hid (fun (X : World) (hb : Below wa.heap.size wa X) => ht7.own.kept hb); clear ht7; have hba := Below.refl wa.heap.size wa)
        | (go_at_call 46; (with_reducible refine (HTV.out _).mono ?_); rintro e wb ⟨rfl, hb8⟩; (with_reducible first | (have hbw := hbw.trans (hb8.mono hbw.size); have hba := hba.trans (hb8.mono hba.size)) | (have hbw := hbw.drew.trans (hb8.mono hbw.drew.size); have hba := hba.drew.trans (hb8.mono hba.drew.size))); clear hb8)
        | (go_at_call 45; (with_reducible refine (HSk.out _ _ ?hq1 ?hq2).mono ?_); (case hq1 => with_reducible first | exact hbw | exact hbw.drew); (case hq2 => with_reducible first | exact hct.out _ hba | exact hct.out _ hba.drew); rintro e wc ⟨rfl, hb9⟩; (with_reducible first | (have hbw := hbw.trans (hb9.mono hbw.size)) | (have hbw := hbw.drew.trans (hb9.mono hbw.drew.size))); clear hb9 hct hba))
      have HB5 := Lib.hid (HB2.out.trans (hbw.mono HB2.out.size))
      clear hbw
      clear HK8 HTk HSk
      have c0 := HCX.out wc HB5.out
      go_wp2_with fail
      refine (HT.out wc HB5.out).mono ?_
      rintro e w6 ⟨A6, m6, rfl, ht6, hb6⟩
      have HB6 := Lib.hid (HB5.out.trans (hb6.mono HB5.out.size))
      have HT6 := Lib.hid (ht6.own.kept (w' := w6.alloc (.cells #[.slice A6 ps.length m6] 45)) ((Below.refl _ _).alloc (Nat.le_refl _) _))
      clear ht6 hb6 c0
      go_wp2_with fail
      obtain ⟨W7, hW7⟩ : ∃ W7, W7 = w6.alloc (.cells #[.slice A6 ps.length m6] 45) := ⟨_, rfl⟩
      have hb67 : Below w6.heap.size w6 W7 := by rw [hW7]; exact (Below.refl _ _).alloc (Nat.le_refl _) _
      have hbx7 : BoxP W7 w6.heap.size (.slice A6 ps.length m6) := by rw [hW7]; exact boxP_new w6 _ _
      rw [← hW7] at HT6 ⊢
      have HB7 := Lib.hid (HB6.out.trans (hb67.mono HB6.out.size))
      have HX7 := Lib.hid (fun (V : World) (hb : Below W7.heap.size W7 V) => (hbx7.kept hb).cell)
      clear hW7 hb67 hbx7
      have HK10 : Hid (∀ X, Below W7.heap.size W7 X → X.cell? ⟨w6.heap.size, 0, none⟩ = some (.slice A6 ps.length m6) ∧ X.cell? ⟨w.heap.size + 1, 0, none⟩ = some (.string x) ∧ X.cell? ⟨w.heap.size + 1, 1, none⟩ = some (.string y) ∧ X.cell? ⟨w.heap.size + 1, 2, none⟩ = some (.string t)) := Lib.hid (fun X hb => by
        have d0 := HX7.out X hb
        obtain ⟨v0, v1, v2⟩ := HCV.out X (HB7.out.trans (hb.mono HB7.out.size))
        exact ⟨d0, v0, v1, v2⟩)
      have HIk := Lib.hid (fun (X : World) (hb : Below W7.heap.size W7 X) => HI.out X _ (HB7.out.trans (hb.mono HB7.out.size)) (HT6.out.kept hb))
      have hbw : Below W7.heap.size W7 W7 := Below.refl _ _
      go_region_held3 (fun X => X.cell? ⟨w6.heap.size, 0, none⟩ = some (.slice A6 ps.length m6) ∧ X.cell? ⟨w.heap.size + 1, 0, none⟩ = some (.string x) ∧ X.cell? ⟨w.heap.size + 1, 1, none⟩ = some (.string y) ∧ X.cell? ⟨w.heap.size + 1, 2, none⟩ = some (.string t)) (with_reducible first | exact HK10.out _ hbw | exact HK10.out _ hbw.drew | exact HK10.out _ hbw.drew.drew | fail) (first
        | (go_at_call 46; (with_reducible refine (HTV.out _).mono ?_); rintro e wb ⟨rfl, hb8⟩; (with_reducible first | (have hbw := hbw.trans (hb8.mono hbw.size)) | (have hbw := hbw.drew.trans (hb8.mono hbw.drew.size)) | (have hbw := hbw.drew.drew.trans (hb8.mono hbw.drew.drew.size))); clear hb8)
        | (go_at_call 47; (with_reducible refine (HIk.out _ ?hq1).mono ?_); (case hq1 => with_reducible first | exact hbw | exact hbw.drew | exact hbw.drew.drew); rintro e wd ⟨rfl, hb9⟩; (with_reducible first | (have hbw := hbw.trans (hb9.mono hbw.size)) | (have hbw := hbw.drew.trans (hb9.mono hbw.drew.size))); clear hb9))
      have HB8 := Lib.hid (HB7.out.trans (hbw.mono HB7.out.size))
      have HB78 := Lib.hid hbw
      have HT8 := Lib.hid (HT6.out.kept hbw)
      clear hbw HK10 HIk
      go_wp2_with fail
      have HKB : Hid (∀ X, Below wd.heap.size wd X → X.cell? ⟨w6.heap.size, 0, none⟩ = some (.slice A6 ps.length m6) ∧ X.cell? ⟨w.heap.size, 0, none⟩ = some (.slice A ps.length m)) := Lib.hid (fun X hb => by
        have a0 := HX7.out X (HB78.out.trans (hb.mono HB78.out.size))
        have d0 := HCX.out X (HB8.out.trans (hb.mono HB8.out.size))
        exact ⟨a0, d0⟩)
      have HTk := Lib.hid (fun (X : World) (hb : Below wd.heap.size wd X) => HT.out X (HB8.out.trans (hb.mono HB8.out.size)))
      have HEQ := Lib.hid (fun (X : World) (u' : Value) (hb : Below wd.heap.size wd X) (hc : PrO X u' ps) => eqP_any ps (.slice A6 ps.length m6) u' X (HT8.out.kept hb) hc)
      have hbw : Below wd.heap.size wd wd := Below.refl _ _
      go_region_held3 (fun X => X.cell? ⟨w6.heap.size, 0, none⟩ = some (.slice A6 ps.length m6) ∧ X.cell? ⟨w.heap.size, 0, none⟩ = some (.slice A ps.length m)) (with_reducible first | exact HKB.out _ hbw.drew | exact HKB.out _ hbw) (first | (go_at_call 41; (with_reducible refine (HTk.out _ hbw.drew).mono ?_); rintro e wa ⟨A7, m7, rfl, ht7, hb7⟩; have hbw := hbw.drew.trans (hb7.mono hbw.drew.size)) | (go_at_call 43; (with_reducible refine (HEQ.out _ _ ?hq1 ?hq2).mono ?_); (case hq1 => (first | exact hbw | exact hbw.drew)); (case hq2 => exact ht7.own); rintro e wb ⟨rfl, hb8⟩; (first | (have hbw := hbw.trans (hb8.mono hbw.size)) | (have hbw := hbw.drew.trans (hb8.mono hbw.drew.size)))))
      all_goals
        have HBZ := Lib.hid (HB8.out.trans (hbw.mono HB8.out.size))
        clear hbw ht7 hb7 hb8
        go_wp2_with fail
        go_ret
        exact ⟨rfl, HB0.out.trans (HBZ.out.mono HB0.out.size)⟩
    · have HQ2 := Lib.hid (leftOf_no hfit2)
      clear hW hW1 hb0 hbx hbx1 h HS0 HI0 hfit hfit2 hq hx hy ht
      go_enter Tryz.func7, Tryz.ntmps7
      go_wp2_with fail
      rw [← HWE.out]
      refine HSZ.out.mono ?_
      rintro e w1 ⟨he, hb1⟩
      rw [HQ.out] at he
      subst he
      have HB1 := Lib.hid hb1
      clear hb1 c0 v0 v1 v2
      obtain ⟨v0, v1, v2⟩ := HCV.out w1 HB1.out
      go_wp2_with fail
      refine (HZV.out w1).mono ?_
      rintro e w2 ⟨he, hb2⟩
      rw [HQ2.out] at he
      subst he
      have HB2 := Lib.hid (HB1.out.trans (hb2.mono HB1.out.size))
      clear hb2 v0 v1 v2
      go_wp2_with fail
      go_ret
      exact ⟨rfl, HB0.out.trans (HB2.out.mono HB0.out.size)⟩
  · have HQ := Lib.hid (leftOf_no (m := wtP ps) (z := 1048576) (by omega))
    clear hW hW1 hb0 hbx hbx1 h HS0 HI0 hfit hx hy ht
    go_enter Tryz.func7, Tryz.ntmps7
    go_wp2_with fail
    rw [← HWE.out]
    refine HSZ.out.mono ?_
    rintro e w1 ⟨he, hb1⟩
    rw [HQ.out] at he
    subst he
    have HB1 := Lib.hid hb1
    clear hb1 c0 v0 v1 v2

    go_wp2_with fail
    go_ret
    exact ⟨rfl, HB0.out.trans (HB1.out.mono HB0.out.size)⟩
end Go.Proofs.YtppliiingoonlaaGreatDoor

/-
  What spec.ApplyValues answers.
-/
namespace Go.Proofs.YtppliiingoonlaaGreatDoor
open Go.RowKit
set_option maxRecDepth 100000 in
set_option maxHeartbeats 1600000 in
theorem specApp_any (s x y z : ByteArray) (w : World) (hs : s.size ≤ 1048576) (hx : x.size ≤ 1048576) (hy : y.size ≤ 1048576) (hz : z.size ≤ 1048576) :
    Calls Tryz.prog 130 #[.string s, .agg #[.string x, .string y, .string z]] w fun e w' => e = .returned (.string (strL (limB (subL (appF x y z) s.data.toList)))) ∧ Below w.heap.size w w' := by
  obtain ⟨f, hf⟩ : ∃ f, f = appF x y z := ⟨_, rfl⟩
  have HF : Hid (∀ c, f c = if isVarB c then (valB x y z c).data.toList else [c]) := Lib.hid (fun c => by rw [hf]; rfl)
  rw [← hf]
  clear hf
  have HV := Lib.hid (fun c => valB_le (x := x) (y := y) (z := z) (n := 1048576) hx hy hz c)
  obtain ⟨W, hW⟩ : ∃ W, W = w.alloc (.cells #[.string x, .string y, .string z] 38) := ⟨_, rfl⟩
  have HB : Hid (Below w.heap.size w W) := Lib.hid (by rw [hW]; exact (Below.refl _ _).alloc (Nat.le_refl _) _)
  have hn : W.heap[w.heap.size]? = some (.cells #[.string x, .string y, .string z] 38) := by rw [hW]; exact heap_alloc_new w _
  have hsz : W.heap.size = w.heap.size + 1 := by rw [hW]; simp
  have HC := Lib.hid (fun (V : World) (hV : Below (w.heap.size + 1) W V) =>
    (And.intro (cell_of_row V w.heap.size 0 _ _ (0, 0) ((hV.block _ (by omega)).trans hn)) (And.intro (cell_of_row V w.heap.size 1 _ _ (0, 0) ((hV.block _ (by omega)).trans hn)) (cell_of_row V w.heap.size 2 _ _ (0, 0) ((hV.block _ (by omega)).trans hn)))))
  clear hn
  go_enter Tryz.func130, Tryz.ntmps130
  go_wp2
  rw [← hW, strL_nil]
  clear hW
  go_loopw [5, 6] (fun o i wr => ∃ (k : Nat) (L : List UInt8), i = .int .i64 k ∧ k ≤ s.size ∧ o = .string (strL L) ∧ L = subL f (s.data.toList.take k) ∧ L.length ≤ 1048576 ∧ Below (w.heap.size + 1) W wr) (fun _ i _ => s.size - (intOf i).toNat)
  case atStart => exact ⟨0, [], rfl, Nat.zero_le _, rfl, rfl, by simp, Below.refl _ _⟩
  case round =>
    obtain ⟨k, L, rfl, hk, rfl, hL, hl, hbw⟩ := hrel
    have HL := Lib.hid hL
    clear hL
    have hz1 := strL_size L
    have HW := Lib.hid hbw
    by_cases hlt : k < s.size
    · have HS := Lib.hid (sub_succ f s k hlt)
      cases hb : isVarB s[k] with
      | true =>
        have hvl := HV.out s[k]
        have HN := Lib.hid (show subL f (s.data.toList.take (k + 1)) = L ++ (valB x y z s[k]).data.toList by rw [HS.out, ← HL.out, HF.out, hb]; rfl)
        have HA := Lib.hid (strL_app L _ (rfl : (valB x y z s[k]).data.toList = _))
        have hn : (L ++ (valB x y z s[k]).data.toList).length = L.length + (valB x y z s[k]).size := by simp
        obtain ⟨M, hM⟩ : ∃ M, M = L ++ (valB x y z s[k]).data.toList := ⟨_, rfl⟩
        rw [← hM] at HN HA hn
        clear hM
        have hz2 := strL_size M
        obtain ⟨c0, c1, c2⟩ := HC.out _ hbw
        have HVAR := Lib.hid (fun wr => specVar_any s[k] wr)
        rw [hb] at HVAR
        have HVAL := Lib.hid (fun wr => specVal_any x y z s[k] wr)
        obtain ⟨t, ht⟩ : ∃ t, t = valB x y z s[k] := ⟨_, rfl⟩
        rw [← ht] at HVAL HA hn hvl
        clear ht hb HS
        by_cases hq : M.length ≤ 1048576
        · go_wp2_with (go_at_call 116; refine (HVAR.out _).mono ?_; rintro e w' ⟨rfl, rfl⟩)
          go_region_with (go_at_call 90; refine (HVAL.out _).mono ?_; rintro e w1 ⟨rfl, hb1⟩)
          all_goals
            have HE := Lib.hid (show Below (w.heap.size + 1) W w1 by first | exact HW.out.trans (hb1.mono (by have := HW.out.size; omega)) | exact HW.out.drew.trans (hb1.mono (by have := HW.out.size; simp; omega)))
            clear hb1 c0 c1 c2
            go_wp2
            go_roundw
            case rel => exact ⟨k + 1, M, by go_num, by omega, HA.out ▸ rfl, HN.out.symm, hq, by first | exact HE.out | exact HE.out.drew⟩
            case measure => simp [intOf]; omega
        · have HO := Lib.hid (sub_over (f := f) (l := s.data.toList) (k := k + 1) (by rw [HN.out]; exact hq))
          go_wp2_with (go_at_call 116; refine (HVAR.out _).mono ?_; rintro e w' ⟨rfl, rfl⟩)
          go_region_with (go_at_call 90; refine (HVAL.out _).mono ?_; rintro e w1 ⟨rfl, hb1⟩)
          all_goals
            have HE := Lib.hid (show Below (w.heap.size + 1) W w1 by first | exact HW.out.trans (hb1.mono (by have := HW.out.size; omega)) | exact HW.out.drew.trans (hb1.mono (by have := HW.out.size; simp; omega)))
            clear hb1 c0 c1 c2
            go_wp2
            go_ret
            exact ⟨by rw [HO.out]; rfl, HB.out.trans (by first | exact HE.out.mono (by omega) | exact HE.out.drew.mono (by omega))⟩
      | false =>
        have hx := one_extract s k hlt
        have HN := Lib.hid (show subL f (s.data.toList.take (k + 1)) = L ++ [s[k]] by rw [HS.out, ← HL.out, HF.out, hb]; rfl)
        have HA := Lib.hid (strL_app L _ hx)
        have HVAR := Lib.hid (fun wr => specVar_any s[k] wr)
        rw [hb] at HVAR
        clear hb hx HS
        have hn : (L ++ [s[k]]).length = L.length + 1 := by simp
        obtain ⟨M, hM⟩ : ∃ M, M = L ++ [s[k]] := ⟨_, rfl⟩
        rw [← hM] at HN HA hn
        clear hM
        have hz2 := strL_size M
        by_cases hq : M.length ≤ 1048576
        · go_wp2_with (go_at_call 116; refine (HVAR.out _).mono ?_; rintro e w' ⟨rfl, rfl⟩)
          go_roundw
          case rel => exact ⟨k + 1, M, by go_num, by omega, HA.out ▸ rfl, HN.out.symm, hq, HW.out⟩
          case measure => simp [intOf]; omega
        · have HO := Lib.hid (sub_over (f := f) (l := s.data.toList) (k := k + 1) (by rw [HN.out]; exact hq))
          go_wp2_with (go_at_call 116; refine (HVAR.out _).mono ?_; rintro e w' ⟨rfl, rfl⟩)
          go_ret
          exact ⟨by rw [HO.out]; rfl, HB.out.trans (HW.out.mono (by omega))⟩
    · obtain rfl : k = s.size := by omega
      have HN := Lib.hid (sub_fits (f := f) (s := s) (by rw [← HL.out]; exact hl))
      rw [← HL.out] at HN
      go_wp2
      go_ret
      exact ⟨by rw [HN.out]; rfl, HB.out.trans (HW.out.mono (by omega))⟩
end Go.Proofs.YtppliiingoonlaaGreatDoor
