/-
  What spec.Join and impl.Join answer over a slice of strings in old memory, where the strings are together at most 2^20 bytes long and the separator is no longer: the joined bytes, none where they are too many. Behind the call nothing that was there has turned.
-/
import Derived.Test.YtiijlpmdnokjfaaSLs
import Derived.Test.YtiijlpmdnokjfaaJoinMath
import Derived.Lib.AppendStr
namespace Go.Proofs.Ytiijlpmdnokjfaa
open Go.RowKit

/-- Bytes as a row's cells. -/
def byts (l : List UInt8) : List Value := l.map fun b => Value.int .u8 b.toNat
theorem byteInfo : (Try.prog.info? 5).map (fun i => (i.zero, i.size, i.bytes)) = some (some (.int .u8 0), 1, 1) := by kernel_rfl
theorem strCells_eq (s : ByteArray) : Lib.strCells s = byts s.data.toList := rfl
theorem byts_append (a b : List UInt8) : byts (a ++ b) = byts a ++ byts b := by simp [byts]
theorem byts_length (a : List UInt8) : (byts a).length = a.length := by simp [byts]

/-- string(b) of a row of the call's own. -/
theorem conv_own (w : World) (B g n c : Nat) (l : List UInt8) (hl : l.length = n) (hown : w.ownsRow B 5 1 (.slice (some ⟨g, 0, none⟩) n c) n (byts l)) :
    (convert 22 9 (.slice (some ⟨g, 0, none⟩) n c)).run Try.prog w = .ok (.string ⟨l.toArray⟩) w := by
  subst hl
  refine run_convert_bytes_back (P := Try.prog) w 22 9 5 ⟨g, 0, none⟩ c l Try.underlying22 Try.underlying5 Try.underlying9 (fun j hj => ?_)
  have h := hown.cellAt j (by omega)
  have e : ((⟨g, 0, none⟩ : Addr).add j) = ⟨g, j, none⟩ := by unfold Addr.add; split <;> simp_all
  rw [e, h]
  simp [byts, hj]

/-- One text more behind what a row of the call's own holds. -/
theorem grow_byts {wr w1 w : World} {B : Nat} {v v' : Value} {L p : List UInt8} {x : ByteArray} (hx : x.data.toList = p) (hown : wr.ownsRow B 5 1 v L.length (byts L)) (hb : Below B w wr) (hB : B ≤ wr.heap.size)
    (hown' : w1.ownsRow B 5 1 v' (L.length + x.size) (byts L ++ Lib.strCells x)) (hg : wr.grownBy w1 v.ownBlock) :
    w1.ownsRow B 5 1 v' (L ++ p).length (byts (L ++ p)) ∧ Below B w w1 := by
  have hs : x.size = p.length := by rw [← hx]; simp
  refine ⟨?_, hb.grown hg hB (fun k hk => (hown.lt k hk).1)⟩
  rw [strCells_eq, hx, hs] at hown'
  rw [byts_append, List.length_append]
  exact hown'

def JoinPost (l : List UInt8) (w : World) (e : Ending) (w' : World) : Prop := e = .returned (.string ⟨l.toArray⟩) ∧ Below w.heap.size w w'

set_option maxRecDepth 100000 in
set_option maxHeartbeats 1600000 in
theorem specJoin_any (A : Option Addr) (c : Nat) (ps : List (List UInt8)) (sep : ByteArray) (w : World) (h : SL w w.heap.size A ps.length ps) (hn : ps.length ≤ 1048576) (hl : Lib.lens ps ≤ 1048576) (hsep : sep.size ≤ 1048576) :
    Calls Try.prog 59 #[.slice A ps.length c, .string sep] w (JoinPost (joined ps sep.data.toList) w) := by
  obtain ⟨i0, hi, hz0, hz1, hz2⟩ := info_parts byteInfo
  have HS := Lib.hid h
  clear h
  go_enter Try.func59, Try.ntmps59
  go_wp2
  go_loopw [5, 6] (fun v i wr => ∃ k : Nat, i = .int .i64 k ∧ k ≤ ps.length ∧ (Lib.join (ps.take k) sep.data.toList).length ≤ 1048576 ∧ wr.ownsRow w.heap.size 5 1 v (Lib.join (ps.take k) sep.data.toList).length (byts (Lib.join (ps.take k) sep.data.toList)) ∧ v ≠ .slice none 0 0 ∧ Below w.heap.size w wr) (fun _ i _ => ps.length - (intOf i).toNat)
  case atStart => exact ⟨0, rfl, Nat.zero_le _, by simp [Lib.join_nil], World.ownsRow_made w #[] 0 (Nat.le_refl _) (by unfold maxLen; omega) rfl, by simp, (Below.refl _ _).alloc (Nat.le_refl _) _⟩
  case round =>
    obtain ⟨k, rfl, hk, hle, hown, hnn, hb⟩ := hrel
    obtain ⟨L, hL⟩ : ∃ L, L = Lib.join (ps.take k) sep.data.toList := ⟨_, rfl⟩
    rw [← hL] at hle hown
    have HL := Lib.hid hL
    have HN := Lib.hid hnn
    clear hL hnn
    by_cases hlt : k < ps.length
    · obtain ⟨p, hp⟩ : ∃ p, ps[k]? = some p := ⟨_, List.getElem?_eq_getElem hlt⟩
      obtain ⟨ad, rfl, hblk, hc⟩ := HS.out.2 k p hp
      have hpl := elem_le_lens hp
      have HP := Lib.hid hp
      clear hp
      obtain ⟨x, hx⟩ : ∃ x : ByteArray, x = ⟨p.toArray⟩ := ⟨_, rfl⟩
      rw [← hx] at hc
      have HX := Lib.hid (show x.data.toList = p by rw [hx])
      have hxs : x.size ≤ 1048576 := by rw [hx]; exact Nat.le_trans hpl hl
      clear hx
      have hcr := (hb.cell (p := ad.add k) (by rw [add_block]; exact hblk)).trans hc
      have HC := Lib.hid hc
      clear hc
      by_cases hk0 : 0 < k
      · have HJ := Lib.hid (show Lib.join (ps.take (k + 1)) sep.data.toList = L ++ sep.data.toList ++ p by rw [join_step HP.out hk0, ← HL.out])
        go_wp2_with (at_builtin; refine Lib.wpList_append_own_string _ rfl (.tmp 16) (.tmp 17) 22 9 rfl w.heap.size 5 i0 Try.underlying22 Try.underlying9 hi hz0 hz1 hz2 _ _ _ rfl hown sep rfl (by simp only [maxLen]; omega) (by omega) hb.size ?_)
        intro v1 w1 hown1 hgr1 hnil1
        have R1 := grow_byts (w := w) (p := sep.data.toList) rfl hown hb hb.size hown1 hgr1
        have HN1 := Lib.hid (fun e => HN.out (hnil1.1 e).1 : ¬ v1 = .slice none 0 0)
        clear hown1 hgr1 hnil1 hown hb
        obtain ⟨hown1, hb1⟩ := R1
        have hcr1 := (hb1.cell (p := ad.add k) (by rw [add_block]; exact hblk)).trans HC.out
        have hlen1 : (L ++ sep.data.toList).length = L.length + sep.size := by simp
        have hlb : (L ++ sep.data.toList).length ≤ 2097152 := by omega
        clear hlen1
        clear hcr
        go_wp2_with (at_builtin; refine Lib.wpList_append_own_string _ rfl (.tmp 19) (.tmp 23) 22 9 rfl w.heap.size 5 i0 Try.underlying22 Try.underlying9 hi hz0 hz1 hz2 _ _ _ rfl hown1 x rfl (by simp only [maxLen]; omega) (by omega) hb1.size ?_)
        intro v2 w2 hown2 hgr2 hnil2
        have R2 := grow_byts (w := w) (p := p) HX.out hown1 hb1 hb1.size (by rw [show (L ++ sep.data.toList).length = L.length + sep.size by simp]; exact hown2) hgr2
        have HN2 := Lib.hid (fun e => HN1.out (hnil2.1 e).1 : ¬ v2 = .slice none 0 0)
        clear hown2 hgr2 hnil2 hown1 hb1 hcr1
        obtain ⟨hown2, hb2⟩ := R2
        have HB2 := Lib.hid hb2
        clear hb2
        rcases hown2.2 with ⟨h0, _⟩ | ⟨g2, cap2, cur2, rfl, _⟩
        · exact absurd h0 HN2.out
        have HO := Lib.hid hown2
        clear hown2
        have hsum : (L ++ sep.data.toList ++ p).length = L.length + sep.size + p.length := by simp [Nat.add_assoc]
        have HSUM := Lib.hid hsum
        clear hsum
        by_cases hq : L.length + sep.size + p.length ≤ 1048576
        · go_wp2
          go_roundw
          case rel => exact ⟨k + 1, by go_num, by omega, by rw [HJ.out, HSUM.out]; exact hq, by rw [HJ.out]; exact HO.out, by simp, HB2.out⟩
          case measure => simp [intOf]; omega
        · have HQ := Lib.hid hq
          clear hq
          have hql : 1048576 < L.length + sep.size + p.length := Nat.lt_of_not_le HQ.out
          go_wp2
          go_ret
          refine ⟨?_, HB2.out⟩
          rw [joined_no (fun hle2 => HQ.out (by rw [← HSUM.out, ← HJ.out]; exact Nat.le_trans (join_take_le _ _ _) hle2))]
          rfl
      · have HJ := Lib.hid (show Lib.join (ps.take (k + 1)) sep.data.toList = L ++ p by
          obtain rfl : k = 0 := by omega
          rw [join_first HP.out, HL.out]
          simp [Lib.join_nil])
        go_wp2_with (at_builtin; refine Lib.wpList_append_own_string _ rfl (.tmp 19) (.tmp 23) 22 9 rfl w.heap.size 5 i0 Try.underlying22 Try.underlying9 hi hz0 hz1 hz2 _ _ _ rfl hown x rfl (by simp only [maxLen]; omega) (by omega) hb.size ?_)
        intro v2 w2 hown2 hgr2 hnil2
        have R2 := grow_byts (w := w) (p := p) HX.out hown hb hb.size hown2 hgr2
        have HN2 := Lib.hid (fun e => HN.out (hnil2.1 e).1 : ¬ v2 = .slice none 0 0)
        clear hown2 hgr2 hnil2 hown hb hcr
        obtain ⟨hown2, hb2⟩ := R2
        have HB2 := Lib.hid hb2
        clear hb2
        rcases hown2.2 with ⟨h0, _⟩ | ⟨g2, cap2, cur2, rfl, _⟩
        · exact absurd h0 HN2.out
        have HO := Lib.hid hown2
        clear hown2
        have hsum : (L ++ p).length = L.length + p.length := by simp
        have HSUM := Lib.hid hsum
        clear hsum
        by_cases hq : L.length + p.length ≤ 1048576
        · go_wp2
          go_roundw
          case rel => exact ⟨k + 1, by go_num, by omega, by rw [HJ.out, HSUM.out]; exact hq, by rw [HJ.out]; exact HO.out, by simp, HB2.out⟩
          case measure => simp [intOf]; omega
        · have HQ := Lib.hid hq
          clear hq
          have hql : 1048576 < L.length + p.length := Nat.lt_of_not_le HQ.out
          go_wp2
          go_ret
          refine ⟨?_, HB2.out⟩
          rw [joined_no (fun hle2 => HQ.out (by rw [← HSUM.out, ← HJ.out]; exact Nat.le_trans (join_take_le _ _ _) hle2))]
          rfl
    · obtain rfl : k = ps.length := by omega
      have e : ps.take ps.length = ps := List.take_of_length_le (Nat.le_refl _)
      have HL' := HL.out
      rw [e] at HL'
      rcases hown.2 with ⟨h0, _⟩ | ⟨g, cap, cur, rfl, _⟩
      · exact absurd h0 HN.out
      have hcv := conv_own wr w.heap.size g L.length cap L rfl hown
      have HJ := Lib.hid HL'
      clear HL' e hown
      go_wp2
      go_ret
      exact ⟨by rw [joined_yes (by rw [← HJ.out]; exact hle), ← HJ.out]; rfl, hb⟩
end Go.Proofs.Ytiijlpmdnokjfaa
