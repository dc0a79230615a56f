/-
  laws.FnSplit answers true at every slice of bytes in old memory; behind the call nothing that was there has turned.
-/
import Derived.Test.YtbedmckgjhhkaaaDrawSplit
import Derived.Test.YtbedmckgjhhkaaaLawJoin
namespace Go.Proofs.Ytbedmckgjhhkaaa
open Go.RowKit

/-- Joining the pieces at the byte gives the bytes back. -/
theorem join_spl (c : UInt8) : ∀ l : List UInt8, Lib.join (spl c l) [c] = l
  | [] => by simp [spl, Lib.join_one]
  | b :: r => by
    have ih := join_spl c r
    unfold spl
    by_cases hb : b = c
    · rw [if_pos hb]
      cases hs : spl c r with
      | nil => exact absurd hs (spl_ne c r)
      | cons p ps =>
        rw [hs] at ih
        rw [Lib.join_cons] at ih ⊢
        simp only [Lib.joinTail, List.map_cons, List.flatten_cons] at ih ⊢
        rw [← ih, hb]
        simp
    · rw [if_neg hb]
      cases hs : spl c r with
      | nil => exact absurd hs (spl_ne c r)
      | cons p ps =>
        rw [hs] at ih
        simp only
        rw [Lib.join_cons] at ih ⊢
        rw [List.cons_append, ih]

theorem lens_spl (c : UInt8) : ∀ l : List UInt8, Lib.lens (spl c l) ≤ l.length
  | [] => by simp [spl, Lib.lens]
  | b :: r => by
    have ih := lens_spl c r
    unfold spl
    by_cases hb : b = c
    · rw [if_pos hb]
      simp only [Lib.lens, List.map_cons, List.sum_cons, List.length_cons, List.length_nil] at ih ⊢
      omega
    · rw [if_neg hb]
      cases hs : spl c r with
      | nil => simp [Lib.lens]
      | cons p ps =>
        rw [hs] at ih
        simp only [Lib.lens, List.map_cons, List.sum_cons, List.length_cons] at ih ⊢
        omega

/-- A piece is one piece. -/
theorem spl_piece (c : UInt8) (l p : List UInt8) (h : p ∈ spl c l) : spl c p = [p] := spl_none c p (fun b hb => spl_free c l p h b hb)

set_option maxRecDepth 100000 in
set_option maxHeartbeats 1600000 in
theorem lawFnSplit_any (A : Option Addr) (n c : Nat) (w : World) (h : BL w w.heap.size A n) (hnm : n ≤ 9223372036854775807) :
    Calls Try.prog 3 #[.slice A n c] w fun e w' => e = .returned (.bool true) ∧ Below w.heap.size w w' := by
  by_cases hz : 1048576 < n
  · have e1 : decide ((n : Int) > 1048576) = true := by simp; omega
    clear h
    go_enter Try.func3, Try.ntmps3
    go_wp2
    go_ret
    exact ⟨rfl, Below.refl _ _⟩
  · have e1 : decide ((n : Int) > 1048576) = false := by simp; omega
    have HD := Lib.hid (drawSplit_any A n c w h (by omega))
    clear h
    go_enter Try.func3, Try.ntmps3
    go_wp2_with (go_at_call 6; go_in)
    refine HD.out.mono ?_
    rintro e w1 ⟨s, b, rfl, hs, hb1⟩
    have B1 := Lib.hid hb1
    clear hb1
    have hlen : s.data.toList.length = s.size := by simp
    have hl1 := spl_length b s.data.toList
    have hl2 := lens_spl b s.data.toList
    rw [hlen] at hl1 hl2
    have hjs := join_spl b s.data.toList
    have HNE := Lib.hid (spl_ne b s.data.toList)
    have HPI := Lib.hid (fun p hp => spl_piece b s.data.toList p hp)
    obtain ⟨ps, hps⟩ : ∃ ps, ps = spl b s.data.toList := ⟨_, rfl⟩
    have HI := Lib.hid (fun w => implSplit_any s b w (by omega))
    have HS := Lib.hid (fun w => specSplit_any s b w (by omega))
    rw [← hps] at hl1 hl2 hjs HNE HPI HI HS
    have HJS := Lib.hid (show (⟨(joined ps [b]).toArray⟩ : ByteArray) = s by
      rw [joined_yes (by rw [hjs, hlen]; omega), hjs])
    clear hps hjs hlen
    go_wp2_with fail
    refine (HI.out _).mono ?_
    intro e w2 hp
    obtain ⟨g1, c1, rfl, hown1, hb2⟩ := hp.form HNE.out
    have O1 := Lib.hid hown1
    have B2 := Lib.hid (B1.out.trans (hb2.mono B1.out.size))
    clear hp hown1 hb2
    have hcv := conv_one w2 b.toNat b rfl
    go_wp2_with fail
    have O2 := Lib.hid (O1.out.alloc (.cells #[.int .u8 b.toNat] 5))
    have B3 := Lib.hid (B2.out.alloc B2.out.size (.cells #[.int .u8 b.toNat] 5))
    clear hcv
    refine (implJoin_any g1 c1 _ ps ⟨#[b]⟩ _ O2.out (by omega) (by omega) (by show 1 ≤ 1048576; omega)).mono ?_
    rintro e w3 ⟨he, hb3⟩
    have he2 : e = .returned (.string s) := by
      rw [he]
      exact congrArg (fun x => Ending.returned (.string x)) HJS.out
    subst he2
    clear he
    have O3 := Lib.hid (own_below O2.out hb3)
    have B4 := Lib.hid (B3.out.trans (hb3.mono B3.out.size))
    clear hb3
    go_wp2_with fail
    refine (HS.out _).mono ?_
    intro e w4 hp
    obtain ⟨g2, c2, rfl, hown4, hb4⟩ := hp.form HNE.out
    have O4 := Lib.hid (own_below O3.out hb4)
    have B5 := Lib.hid (B4.out.trans (hb4.mono B4.out.size))
    clear hp hown4 hb4
    go_wp2_with fail
    go_loopw [6] (fun i wr => ∃ k : Nat, i = .int .i64 k ∧ k ≤ ps.length ∧ wr.ownsRow w1.heap.size 9 1 (.slice (some ⟨g1, 0, none⟩) ps.length c1) ps.length (strs ps) ∧ Below w.heap.size w wr) (fun i _ => ps.length - (intOf i).toNat)
    case atStart => exact ⟨0, rfl, Nat.zero_le _, O4.out, B5.out⟩
    case round =>
      obtain ⟨k, rfl, hk, hown, hb⟩ := hrel
      by_cases hlt : k < ps.length
      · obtain ⟨p, hp⟩ : ∃ p, ps[k]? = some p := ⟨_, List.getElem?_eq_getElem hlt⟩
        have hpl := elem_le_lens hp
        have hce : wr.cell? ⟨g1, k, none⟩ = some (.string ⟨p.toArray⟩) := by
          rw [hown.cellAt k (by omega)]
          simp [strs, hp]
        have hone := HPI.out p (List.mem_of_getElem? hp)
        have HK := Lib.hid (fun w => implSplit_any ⟨p.toArray⟩ b w (by show p.length ≤ 1048576; omega))
        have hee : (⟨p.toArray⟩ : ByteArray).data.toList = p := rfl
        rw [hee, hone] at HK
        have O := Lib.hid hown
        have BB := Lib.hid hb
        clear hp hone hee hown hb
        go_wp2_with fail
        refine (HK.out _).mono ?_
        intro e w5 hp
        obtain ⟨g3, c3, rfl, hown5, hb5⟩ := hp.form (by simp)
        have O5 := Lib.hid (own_below O.out hb5)
        have B6 := Lib.hid (BB.out.trans (hb5.mono BB.out.size))
        clear hp hown5 hb5 hce
        go_wp2_with fail
        go_roundw
        case rel => exact ⟨k + 1, by go_num, by omega, O5.out, B6.out⟩
        case measure => simp [intOf]; omega
      · have BB := Lib.hid hb
        clear hown hb
        go_wp2_with fail
        go_ret
        exact ⟨rfl, BB.out⟩
#print axioms lawFnSplit_any
end Go.Proofs.Ytbedmckgjhhkaaa
