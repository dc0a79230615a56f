/-
  What impl.FormatValues answers, where the text has at most 2^20 bytes.
-/
import Derived.Test.YtiijlpmdnokjfaaTerI
import Derived.Test.YtiijlpmdnokjfaaValI
import Derived.Test.YtiijlpmdnokjfaaFmtS
namespace Go.Proofs.Ytiijlpmdnokjfaa
open Go.RowKit

theorem enc_ascii (b : UInt8) (h : b.toNat < 128) : Utf8.encode (b.toNat : Int) = ⟨#[b]⟩ := by
  unfold Utf8.encode
  have hv : Utf8.valid (b.toNat : Int) = true := by simp [Utf8.valid]; omega
  simp only [hv, if_true, Int.toNat_natCast, h]
  simp
theorem owns_iter {w : World} {k pos : Nat} {s : ByteArray} {v : Value} {n : Nat} {xs : List Value} (h : w.ownsRow (k + 1) 9 1 v n xs) : (w.iterAt k s pos).ownsRow (k + 1) 9 1 v n xs :=
  h.kept (row := some k) ⟨rfl, rfl, rfl, by rw [Lib.iterAt_size]; exact Nat.le_refl _, fun j hj hne => Lib.iterAt_other w k j s pos (fun e => hne (by rw [e]))⟩ (by
    cases hv : v.ownBlock with
    | none => exact Or.inl rfl
    | some g => exact Or.inr (fun e => by
        have h1 := (h.lt g hv).1
        cases e
        omega))
theorem vars_low {l : List UInt8} {b : UInt8} (h : b ∈ varsL l) : b.toNat < 128 := by
  have h1 : b ∈ vars3 := (List.mem_filter.1 h).1
  simp [vars3] at h1
  rcases h1 with rfl | rfl | rfl <;> decide

set_option maxRecDepth 100000 in
set_option maxHeartbeats 3200000 in
theorem implFmt_any (x y z s : ByteArray) (w : World) (hx : x.size ≤ 1048576) (hy : y.size ≤ 1048576) (hz : z.size ≤ 1048576) (hq : (Lib.join (partsV x y z (varsL s.data.toList)) [32]).length ≤ 1048576) :
    Calls Try.prog 30 #[.agg #[.string x, .string y, .string z], .string s] w (JoinPost (Lib.join (partsV x y z (varsL s.data.toList)) [32]) w) := by
  obtain ⟨i0, hi, hz0, hz1, hz2⟩ := info_parts strInfo
  have HVS := Lib.hid (fun V => implVars_any s V)
  have hM3 : (varsL s.data.toList).length ≤ 3 := by rw [← varsK_end]; exact varsK_len _ _
  have hlow : ∀ b ∈ varsL s.data.toList, b.toNat < 128 := fun b h => vars_low h
  obtain ⟨M, hM⟩ : ∃ M, M = varsL s.data.toList := ⟨_, rfl⟩
  rw [← hM] at HVS hq hM3 hlow ⊢
  clear hM
  have HLOW := Lib.hid hlow
  have HQ := Lib.hid hq
  clear hlow hq
  have HVL := Lib.hid (fun c => valB_le (x := x) (y := y) (z := z) (n := 1048576) hx hy hz c)
  obtain ⟨W, hW⟩ : ∃ W, W = w.alloc (.cells #[.string x, .string y, .string z] 25) := ⟨_, rfl⟩
  have HB : Hid (Below w.heap.size w W) := Lib.hid (by rw [hW]; exact (Below.refl _ _).alloc (Nat.le_refl _) _)
  have hn : W.heap[w.heap.size]? = some (.cells #[.string x, .string y, .string z] 25) := by rw [hW]; exact heap_alloc_new w _
  have hsz : W.heap.size = w.heap.size + 1 := by rw [hW]; simp
  have HC := Lib.hid (fun (V : World) (hV : Below (w.heap.size + 1) W V) =>
    (And.intro (cell_of_row V w.heap.size 0 _ _ (0, 0) ((hV.block _ (by omega)).trans hn)) (And.intro (cell_of_row V w.heap.size 1 _ _ (0, 0) ((hV.block _ (by omega)).trans hn)) (cell_of_row V w.heap.size 2 _ _ (0, 0) ((hV.block _ (by omega)).trans hn)))))
  clear hn
  go_enter Try.func30, Try.ntmps30
  go_wp2_with fail
  rw [← hW]
  clear hW
  refine (HVS.out _).mono ?_
  rintro e w1 ⟨rfl, hb1⟩
  have hz1' : W.heap.size ≤ w1.heap.size := hb1.size
  obtain ⟨B, hB⟩ : ∃ B, B = w1.heap.size := ⟨_, rfl⟩
  have HI0 : Hid ((w1.iter (strL M) 0).heap[B]? = some (.stringIter (strL M) 0)) := Lib.hid (by rw [hB]; exact World.iter_heap w1 _ 0)
  have HB1 : Hid (Below (w.heap.size + 1) W (w1.iter (strL M) 0)) := Lib.hid ((hb1.mono (by omega)).trans ((Below.refl _ _).alloc (by omega) _))
  have hBw : w.heap.size + 1 ≤ B := by omega
  clear hb1
  go_wp2_with fail
  rw [← hB]
  clear hB hz1'
  go_loopw [5] (fun v wr => ∃ k : Nat, k ≤ M.length ∧ wr.ownsRow (B + 1) 9 1 v k (strs ((partsV x y z M).take k)) ∧ wr.heap[B]? = some (.stringIter (strL M) k) ∧ Below (w.heap.size + 1) W wr) (fun _ wr => M.length - wr.iterPos B)
  case atStart => exact ⟨0, Nat.zero_le _, World.ownsRow_nil _ _ _ _, HI0.out, HB1.out⟩
  case round =>
    obtain ⟨k, hk, hown, hit, hbw⟩ := hrel
    have hBlt : B < wr.heap.size := (Array.getElem?_eq_some_iff.1 hit).1
    have hzM := strL_size M
    have hip := iterPos_of hit
    by_cases hlt : k < M.length
    · have hlt' : k < (strL M).size := by rw [hzM]; exact hlt
      obtain ⟨b, hb⟩ : ∃ b, b = (strL M)[k]'hlt' := ⟨_, rfl⟩
      have hbM : M[k]? = some b := by rw [List.getElem?_eq_getElem hlt, hb]; exact congrArg some (by simp [strL]; rfl)
      have hb128 := HLOW.out b (List.mem_of_getElem? hbM)
      have hnx : ∀ ty, (Instr.next (.pointer (some ⟨B, 0, none⟩)) true ty).run Try.prog wr = .ok (.tuple #[.bool true, .int .i64 k, .int .i32 b.toNat]) (wr.iterAt B (strL M) (k + 1)) := fun ty => by rw [Lib.run_next_ascii_at wr B (strL M) k ty hit hlt' (by rw [← hb]; exact hb128), ← hb]
      obtain ⟨w2, hw2⟩ : ∃ w2, w2 = wr.iterAt B (strL M) (k + 1) := ⟨_, rfl⟩
      have HO2 : Hid (w2.ownsRow (B + 1) 9 1 u5 k (strs ((partsV x y z M).take k))) := Lib.hid (by rw [hw2]; exact owns_iter hown)
      have HI2 : Hid (w2.heap[B]? = some (.stringIter (strL M) (k + 1))) := Lib.hid (by rw [hw2]; exact Lib.iterAt_heap wr B _ k (k + 1) hit)
      have HB2 : Hid (Below (w.heap.size + 1) W w2) := Lib.hid (by rw [hw2]; exact Lib.below_iterAt hbw hBw _ _)
      have hzB : B < w2.heap.size := by rw [hw2, Lib.iterAt_size]; exact hBlt
      rw [← hw2] at hnx
      have HP := Lib.hid (partV_str x y z (t := ⟨#[b]⟩) (b := b) rfl)
      have HTK : Hid (strs ((partsV x y z M).take (k + 1)) = strs ((partsV x y z M).take k) ++ [.string ⟨(partV x y z b).toArray⟩]) := Lib.hid (by
        rw [List.take_add_one, show (partsV x y z M)[k]? = some (partV x y z b) by unfold partsV; rw [List.getElem?_map, hbM]; rfl, strs_append]; rfl)
      have hen := enc_ascii b hb128
      have hw8 : IntKind.u8.wrap (b.toNat : Int) = (b.toNat : Int) := by have := b.toNat_lt; simp [IntKind.wrap, IntKind.bits, IntKind.signed]; omega
      obtain ⟨c0, c1, c2⟩ := HC.out _ HB2.out
      have HV := Lib.hid (fun V => implVal_any x y z b V)
      have hvl := HVL.out b
      generalize valB x y z b = t at *
      clear hb hbM hw2 hown hit hbw hlt'
      go_wp2_with fail
      refine (HV.out _).mono ?_
      rintro e w3 ⟨rfl, hb3⟩
      have HO3 := Lib.hid (owns_below HO2.out hb3)
      have HI3 := Lib.hid ((hb3.block B hzB).trans HI2.out)
      have HB3 := Lib.hid (HB2.out.trans (hb3.mono (by omega)))
      have hz3 : w2.heap.size ≤ w3.heap.size := hb3.size
      clear hb3 c0 c1 c2 hnx hen hw8
      go_wp2_with (at_builtin; refine wpList_append_own_at _ rfl (.tmp 14) (.tmp 23) 75 rfl (B + 1) 9 i0 (.string ⟨#[]⟩) 1 16 Try.underlying75 hi hz0 hz1 hz2 rfl (by decide) _ _ _ rfl (HO3.out.alloc _) ⟨w3.heap.size, 0, none⟩ 1 1 [.string _] rfl rfl (newCell w3 _ _) (oneCell_str _) (by unfold maxLen; omega) (by omega) (by simp; omega) ?_)
      intro v5 w5 hown5 hgrow5 hnil5 hat5
      have HB5 := Lib.hid ((HB3.out.alloc (by omega) _).grown hgrow5 (by simp; omega) (fun g e => by have := (HO3.out.lt g e).1; omega))
      have HI5 : Hid (w5.heap[B]? = some (.stringIter (strL M) (k + 1))) := Lib.hid ((hgrow5.block B (by simp; omega) (fun e => by have := (HO3.out.lt B e.symm).1; omega)).trans ((Below.heap_alloc _ _ _ (by omega)).trans HI3.out))
      have HO5 := Lib.hid hown5
      rw [HP.out] at HO5
      rw [← HTK.out] at HO5
      clear hown5 hgrow5 hnil5 hat5
      have hip5 := iterPos_of HI5.out
      go_wp2_with fail
      go_roundw
      case rel => exact ⟨k + 1, by omega, HO5.out, HI5.out, HB5.out⟩
      case measure => rw [hip, hip5]; omega
    · obtain rfl : k = M.length := by omega
      have hnx : ∀ ty, (Instr.next (.pointer (some ⟨B, 0, none⟩)) true ty).run Try.prog wr = _ := fun ty => Lib.run_next_end_at wr B (strL M) M.length ty hit (by omega)
      have hp : (partsV x y z M).length = M.length := by simp [partsV]
      have ht : (partsV x y z M).take M.length = partsV x y z M := List.take_of_length_le (by omega)
      have hO2 : wr.ownsRow (B + 1) 9 1 u5 (partsV x y z M).length (strs (partsV x y z M)) := by
        have h := hown
        rw [ht] at h
        rw [hp]
        exact h
      have HE := Lib.hid (HB.out.trans (hbw.mono (by omega)))
      have hzw : w.heap.size ≤ wr.heap.size := by omega
      clear hbw hown hit hip
      rcases own_cases hO2 with ⟨h0, A, c, rfl⟩ | ⟨g, c, rfl⟩
      · have hM0 : partsV x y z M = [] := List.length_eq_zero_iff.1 h0
        have HJ := Lib.hid (Try.strings_Join_none A c ⟨#[32]⟩ wr)
        clear hO2 ht hp
        go_wp2_with fail
        refine HJ.out.mono ?_
        rintro e w5 ⟨rfl, rfl⟩
        go_wp2_with fail
        go_ret
        exact ⟨by rw [hM0]; rfl, HE.out⟩
      · have HJ := Lib.hid (libJoin_any g c (B + 1) (partsV x y z M) ⟨#[32]⟩ wr hO2 (by omega) HQ.out)
        rw [hp] at HJ
        clear hO2 ht
        go_wp2_with fail
        refine HJ.out.mono ?_
        rintro e w5 ⟨rfl, hb5⟩
        have HF := Lib.hid (HE.out.trans (hb5.mono hzw))
        clear hb5
        go_wp2_with fail
        go_ret
        exact ⟨rfl, HF.out⟩
end Go.Proofs.Ytiijlpmdnokjfaa
