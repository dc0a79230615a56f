/-
  What impl.substitute answers, where the function that it is handed answers; what impl.ReplaceVar and impl.ApplyValues answer.
-/
import Derived.Test.YtiijlpmdnokjfaaTerM
import Derived.Test.YtiijlpmdnokjfaaBld
import Derived.Test.YtiijlpmdnokjfaaValI
import Derived.Test.YtiijlpmdnokjfaaStrBase
import Derived.Deep.RegionWith
import Derived.Deep.QuietTactic
import Derived.BigQuiet
import Derived.RegionTactic
import Derived.Shelf.Abstract
import Derived.Outline
namespace Go.Proofs.Ytiijlpmdnokjfaa
open Go.RowKit

theorem isB_below {T e : TypeId} {B b : Nat} {bs : List Value} {w w' : World} (h : Lib.IsBuilder T e B b bs w) (hb : Below w.heap.size w w') : Lib.IsBuilder T e B b bs w' := by
  have key : ∀ p, Lib.BuilderAt T e B b p bs w → Lib.BuilderAt T e B b p bs w' := fun p k => by
    have hlt := k.lt
    obtain ⟨h1, v, h2, h3, h4⟩ := k
    exact ⟨h1, v, (hb.block b hlt).trans h2, owns_below h3 hb, h4⟩
  rcases h with h | h
  · exact Or.inl (key _ h)
  · exact Or.inr (key _ h)

/-- What a function says of a byte: a part in its place, or nothing. -/
def SayPost (f : UInt8 → List UInt8) (b : UInt8) (V : World) (e : Ending) (w' : World) : Prop :=
  ∃ (t : ByteArray) (yes : Bool), e = .returned (.tuple #[.string t, .bool yes]) ∧ t.size ≤ 1048576 ∧ f b = (if yes then t.data.toList else [b]) ∧ Below V.heap.size V w'

set_option maxRecDepth 100000 in
set_option maxHeartbeats 3200000 in
theorem subst_any (f : UInt8 → List UInt8) (q : Nat) (cap : Array Value) (s : ByteArray) (w : World) (hs : s.size ≤ 1048576) (hen : ∀ args w, (callFunc q args).run Try.prog w = .ok (.enter q args) w)
    (hc : ∀ (b : UInt8) (V : World), Below w.heap.size w V → Calls Try.prog q (#[.int .u8 b.toNat] ++ cap) V (SayPost f b V)) :
    Calls Try.prog 47 #[.string s, .func (.func q) #[] cap] w fun e w' => e = .returned (.string (strL (limB (subL f s.data.toList)))) ∧ Below w.heap.size w w' := by
  have HC := Lib.hid hc
  clear hc
  obtain ⟨B, hB⟩ : ∃ B, B = w.heap.size := ⟨_, rfl⟩
  have HI0 := Lib.hid (Lib.fresh_isBuilder 94 5 w)
  have HB0 : Hid (Below w.heap.size w (w.alloc (.cells #[.pointer none, .slice none 0 0] 94))) := Lib.hid ((Below.refl _ _).alloc (Nat.le_refl _) _)
  have HS0 := Lib.hid HB0.out.size
  rw [← hB] at HC HI0 HB0 HS0 ⊢
  go_enter Try.func47, Try.ntmps47
  go_wp2
  rw [← hB]
  clear hB
  go_loopw [11] (fun i wr => ∃ (k : Nat) (L : List UInt8), i = .int .i64 k ∧ k ≤ s.size ∧ L = subL f (s.data.toList.take k) ∧ L.length ≤ 1048576 ∧ Lib.IsBuilder 94 5 B B (Lib.byteCells L) wr ∧ Below B w wr ∧ B ≤ wr.heap.size) (fun i _ => s.size - (intOf i).toNat)
  case atStart => exact ⟨0, [], rfl, Nat.zero_le _, rfl, by simp, HI0.out, HB0.out, HS0.out⟩
  case round =>
    obtain ⟨k, L, rfl, hk, hL, hl, hib, hbw, hsz⟩ := hrel
    have hl2 : (Lib.byteCells L).length = L.length := by rw [Lib.byteCells_length]
    have HL := Lib.hid hL
    clear hL
    by_cases hlt : k < s.size
    · have HS := Lib.hid (sub_succ f s k hlt)
      have HX := Lib.hid (one_extract s k hlt)
      have HI := Lib.hid hib
      have HW := Lib.hid hbw
      have HCC := Lib.hid (HC.out s[k] wr hbw)
      clear hib hbw
      go_wp2_with (go_at_fn q; refine HCC.out.mono ?_)
      rintro e w1 ⟨t, yes, rfl, ht, hf, hb1⟩
      have HI1 := Lib.hid (isB_below HI.out hb1)
      have HW1 := Lib.hid (HW.out.trans (hb1.mono hsz))
      have hz1 : B ≤ w1.heap.size := Nat.le_trans hsz hb1.size
      clear hb1
      have HLN := Lib.hid (libLen_any B B _ w1 HI1.out)
      cases yes with
      | true =>
        have HN := Lib.hid (show subL f (s.data.toList.take (k + 1)) = L ++ t.data.toList by rw [HS.out, ← HL.out, hf]; rfl)
        clear hf
        have hn : (L ++ t.data.toList).length = L.length + t.size := by simp
        by_cases hq : L.length + t.size ≤ 1048576
        · have HWR := Lib.hid (libWrite_any B B _ t w1 HI1.out (by rw [hl2]; omega) hz1)
          go_wp2_with (first | (go_at_call 75; refine HLN.out.mono ?_; rintro e w' ⟨rfl, rfl⟩) | (go_at_call 76; refine HWR.out.mono ?_; rintro e w2 ⟨rfl, hi2, hb2⟩))
          have HE := Lib.hid (And.intro hi2 (And.intro (HW1.out.trans hb2) (Nat.le_trans hz1 hb2.size)))
          clear hi2 hb2
          go_wp2
          go_roundw
          case rel => exact ⟨k + 1, L ++ t.data.toList, by go_num, by omega, HN.out.symm, by omega, Or.inr (by rw [Lib.byteCells_append]; exact HE.out.1), HE.out.2.1, HE.out.2.2⟩
          case measure => simp [intOf]; omega
        · have HO := Lib.hid (sub_over (f := f) (l := s.data.toList) (k := k + 1) (by rw [HN.out]; omega))
          go_wp2_with (first | (go_at_call 75; refine HLN.out.mono ?_; rintro e w' ⟨rfl, rfl⟩) | fail)
          go_ret
          exact ⟨by rw [HO.out]; rfl, HW1.out⟩
      | false =>
        have HN := Lib.hid (show subL f (s.data.toList.take (k + 1)) = L ++ (s.extract k (k + 1)).data.toList by rw [HS.out, ← HL.out, hf, HX.out]; rfl)
        clear hf
        have hz3 : (s.extract k (k + 1)).size = 1 := by simp; omega
        have HNL := Lib.hid (show (L ++ (s.extract k (k + 1)).data.toList).length = L.length + 1 by rw [HX.out]; simp)
        by_cases hq : L.length + 1 ≤ 1048576
        · have HWR := Lib.hid (libWrite_any B B _ (s.extract k (k + 1)) w1 HI1.out (by rw [hl2, hz3]; omega) hz1)
          clear hz3
          go_wp2_with (first | (go_at_call 75; refine HLN.out.mono ?_; rintro e w' ⟨rfl, rfl⟩) | (go_at_call 76; refine HWR.out.mono ?_; rintro e w2 ⟨rfl, hi2, hb2⟩))
          have HE := Lib.hid (And.intro hi2 (And.intro (HW1.out.trans hb2) (Nat.le_trans hz1 hb2.size)))
          clear hi2 hb2
          go_wp2
          go_roundw
          case rel => exact ⟨k + 1, L ++ (s.extract k (k + 1)).data.toList, by go_num, by omega, HN.out.symm, by rw [HNL.out]; exact hq, Or.inr (by rw [Lib.byteCells_append]; exact HE.out.1), HE.out.2.1, HE.out.2.2⟩
          case measure => simp [intOf]; omega
        · have HO := Lib.hid (sub_over (f := f) (l := s.data.toList) (k := k + 1) (by rw [HN.out, HNL.out]; exact hq))
          clear hz3
          go_wp2_with (first | (go_at_call 75; refine HLN.out.mono ?_; rintro e w' ⟨rfl, rfl⟩) | fail)
          go_ret
          exact ⟨by rw [HO.out]; rfl, HW1.out⟩
    · obtain rfl : k = s.size := by omega
      have HN := Lib.hid (sub_fits (f := f) (s := s) (by rw [← HL.out]; exact hl))
      rw [← HL.out] at HN
      have HST := Lib.hid (libString_any B B L wr hib hsz)
      have HW := Lib.hid hbw
      clear hib hbw
      go_wp2_with (go_at_call 77; refine HST.out.mono ?_; rintro e w' ⟨rfl, hb2⟩)
      go_ret
      exact ⟨by rw [HN.out]; rfl, HW.out.trans hb2⟩

set_option maxRecDepth 100000 in
set_option maxHeartbeats 3200000 in
theorem repClo_any (b0 b : UInt8) (t : ByteArray) (g : Nat) (V : World) (ht : t.size ≤ 1048576) (h0 : V.cell? ⟨g, 0, none⟩ = some (.int .u8 b0.toNat)) (h1 : V.cell? ⟨g + 1, 0, none⟩ = some (.string t)) :
    Calls Try.prog 53 (#[.int .u8 b.toNat] ++ #[.pointer (some ⟨g + 1, 0, none⟩), .pointer (some ⟨g, 0, none⟩)]) V (SayPost (repF b0 t) b V) := by
  by_cases hb : b = b0
  · have HF := Lib.hid (show repF b0 t b = t.data.toList by unfold repF; rw [if_pos hb])
    subst hb
    go_enter Try.func53, Try.ntmps53
    go_wp2
    go_quiet (fail)
    all_goals go_wp2
    go_ret2
    exact ⟨t, true, rfl, ht, HF.out, by first | exact Below.refl _ _ | exact ⟨rfl, rfl, rfl, Nat.le_refl _, fun _ _ => rfl⟩⟩
  · have HF := Lib.hid (show repF b0 t b = [b] by unfold repF; rw [if_neg hb])
    have hb' : ((b.toNat : Int) == (b0.toNat : Int)) = false := by
      simp only [beq_eq_false_iff_ne, ne_eq]; intro e; exact hb (UInt8.toNat_inj.1 (by omega))
    clear hb
    go_enter Try.func53, Try.ntmps53
    go_wp2
    go_quiet (fail)
    all_goals go_wp2
    go_ret2
    exact ⟨t, false, rfl, ht, HF.out, by first | exact Below.refl _ _ | exact ⟨rfl, rfl, rfl, Nat.le_refl _, fun _ _ => rfl⟩⟩

set_option maxRecDepth 100000 in
theorem implRep_any (s t : ByteArray) (b : UInt8) (w : World) (hs : s.size ≤ 1048576) (ht : t.size ≤ 1048576) :
    Calls Try.prog 22 #[.string s, .int .u8 b.toNat, .string t] w fun e w' => e = .returned (.string (strL (limB (subL (repF b t) s.data.toList)))) ∧ Below w.heap.size w w' := by
  obtain ⟨W, hW⟩ : ∃ W, W = (w.alloc (.cells #[.int .u8 b.toNat] 5)).alloc (.cells #[.string t] 9) := ⟨_, rfl⟩
  have hz : W.heap.size = w.heap.size + 2 := by rw [hW]; simp
  have g0 : W.heap[w.heap.size]? = some (.cells #[.int .u8 b.toNat] 5) := by rw [hW]; exact (Below.heap_alloc _ _ _ (by simp)).trans (heap_alloc_new w _)
  have g1 : W.heap[w.heap.size + 1]? = some (.cells #[.string t] 9) := by rw [hW]; exact newAt w _ _
  have HB : Hid (Below w.heap.size w W) := Lib.hid (by rw [hW]; exact ((Below.refl _ _).alloc (Nat.le_refl _) _).alloc (by simp) _)
  have HS := Lib.hid (subst_any (repF b t) 53 #[.pointer (some ⟨w.heap.size + 1, 0, none⟩), .pointer (some ⟨w.heap.size, 0, none⟩)] s W hs (enters_of Try.func53 (by kernel_rfl) rfl)
    (fun c V hV => repClo_any b c t w.heap.size V ht (cell_of_row V w.heap.size 0 _ _ (0, 0) ((hV.block _ (by omega)).trans g0)) (cell_of_row V (w.heap.size + 1) 0 _ _ (0, 0) ((hV.block _ (by omega)).trans g1))))
  have HZ := Lib.hid hz
  clear g0 g1 hz
  go_enter Try.func22, Try.ntmps22
  go_wp2_with fail
  rw [← hW]
  refine HS.out.mono ?_
  rintro e w1 ⟨rfl, hb⟩
  have HE := Lib.hid (HB.out.trans (hb.mono (by rw [HZ.out]; omega)))
  clear hb
  go_wp2_with fail
  go_ret
  exact ⟨rfl, HE.out⟩

set_option maxRecDepth 100000 in
set_option maxHeartbeats 3200000 in
theorem appClo_any (x y z : ByteArray) (b : UInt8) (g : Nat) (V : World) (hx : x.size ≤ 1048576) (hy : y.size ≤ 1048576) (hz : z.size ≤ 1048576)
    (h0 : V.cell? ⟨g, 0, none⟩ = some (.string x)) (h1 : V.cell? ⟨g, 1, none⟩ = some (.string y)) (h2 : V.cell? ⟨g, 2, none⟩ = some (.string z)) :
    Calls Try.prog 48 (#[.int .u8 b.toNat] ++ #[.pointer (some ⟨g, 0, none⟩)]) V (SayPost (appF x y z) b V) := by
  have HV := Lib.hid (implVal_any x y z b V)
  have HL := Lib.hid (valB_le (n := 1048576) hx hy hz b)
  have HI := Lib.hid (fun w => (Try.strings_IndexByte ⟨#[88, 89, 90]⟩ b.toNat w).mono (R' := fun e w' => e = .returned (.int .i64 (Lib.indexByte [88, 89, 90] b)) ∧ w' = w) fun e w' ⟨h, k⟩ => ⟨by rw [h]; simp, k⟩)
  have HF : Hid (appF x y z b = if decide (0 ≤ Lib.indexByte [88, 89, 90] b) then (valB x y z b).data.toList else [b]) := Lib.hid (by rw [varIdx_lib]; rfl)
  clear hx hy hz
  generalize valB x y z b = t at *
  generalize Lib.indexByte [88, 89, 90] b = r at *
  go_enter Try.func48, Try.ntmps48
  go_wp2_with (first | (go_at_call 23; refine HV.out.mono ?_; rintro e w1 ⟨rfl, hb⟩) | (go_at_call 49; refine (HI.out _).mono ?_; rintro e w' ⟨rfl, rfl⟩))
  go_ret2
  exact ⟨t, decide (0 ≤ r), rfl, HL.out, HF.out, hb⟩

set_option maxRecDepth 100000 in
theorem implApp_any (s x y z : ByteArray) (w : World) (hs : s.size ≤ 1048576) (hx : x.size ≤ 1048576) (hy : y.size ≤ 1048576) (hz : z.size ≤ 1048576) :
    Calls Try.prog 16 #[.string s, .agg #[.string x, .string y, .string z]] w fun e w' => e = .returned (.string (strL (limB (subL (appF x y z) s.data.toList)))) ∧ Below w.heap.size w w' := by
  obtain ⟨W, hW⟩ : ∃ W, W = w.alloc (.cells #[.string x, .string y, .string z] 25) := ⟨_, rfl⟩
  have hz' : W.heap.size = w.heap.size + 1 := by rw [hW]; simp
  have g0 : W.heap[w.heap.size]? = some (.cells #[.string x, .string y, .string z] 25) := by rw [hW]; exact heap_alloc_new w _
  have HB : Hid (Below w.heap.size w W) := Lib.hid (by rw [hW]; exact (Below.refl _ _).alloc (Nat.le_refl _) _)
  have HS := Lib.hid (subst_any (appF x y z) 48 #[.pointer (some ⟨w.heap.size, 0, none⟩)] s W hs (enters_of Try.func48 (by kernel_rfl) rfl)
    (fun c V hV => have k := (hV.block _ (by omega)).trans g0
      appClo_any x y z c w.heap.size V hx hy hz (cell_of_row V w.heap.size 0 _ _ (0, 0) k) (cell_of_row V w.heap.size 1 _ _ (0, 0) k) (cell_of_row V w.heap.size 2 _ _ (0, 0) k)))
  have HZ := Lib.hid hz'
  clear g0 hz' hx hy hz hs
  go_enter Try.func16, Try.ntmps16
  go_wp2_with fail
  rw [← hW]
  refine HS.out.mono ?_
  rintro e w1 ⟨rfl, hb⟩
  have HE := Lib.hid (HB.out.trans (hb.mono (by rw [HZ.out]; omega)))
  clear hb
  go_wp2_with fail
  go_ret
  exact ⟨rfl, HE.out⟩
end Go.Proofs.Ytiijlpmdnokjfaa
