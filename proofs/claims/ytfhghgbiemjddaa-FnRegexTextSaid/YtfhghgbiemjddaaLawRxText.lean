/-
  laws.FnRegexText answers true at every slice of bytes: an expression is parsed from its representation.
-/
import Derived.Test.YtfhghgbiemjddaaLawParRx
import Derived.Test.YtfhghgbiemjddaaDrawnRx
import Derived.Test.YtfhghgbiemjddaaParBack
import Derived.Test.YtfhghgbiemjddaaCntI
import Derived.Test.YtfhghgbiemjddaaTextI
import Derived.Test.YtfhghgbiemjddaaEqualI
namespace Go.Proofs.Ytfhghgbiemjddaa
open Go.RowKit

set_option maxHeartbeats 400000 in
theorem big_any (A : Option Addr) (n c : Nat) (w : World) :
    Calls Try.prog 8 #[.slice A n c] w fun e w' => e = .returned (.bool (decide (1048576 < n))) ∧ w = w' := by
  by_cases hn : 1048576 < n
  · have e1 : decide ((n : Int) > 1048576) = true := by simp; omega
    have e2 : decide (1048576 < n) = true := by simpa using hn
    rw [e2]
    go_enter Try.func8, Try.ntmps8
    go_wp2
    go_ret
    exact ⟨rfl, rfl⟩
  · have e1 : decide ((n : Int) > 1048576) = false := by simp; omega
    have e2 : decide (1048576 < n) = false := by simpa using hn
    rw [e2]
    go_enter Try.func8, Try.ntmps8
    go_wp2
    go_ret
    exact ⟨rfl, rfl⟩

/-- What a parser answers of some text: where it is fine, the expression's text is the text. -/
theorem pa_all (l : List UInt8) : ∃ (k : Int) (b : ByteArray) (a : Fr) (ok : Bool), a.size ≤ 64 ∧ b.size ≤ 1 ∧ (ok = true → formatRx k b a = l) ∧ ∀ w e w', PaPost l w e w' → PaOf k b a ok w e w' := by
  cases hp : parseAll l with
  | none =>
    refine ⟨0, ⟨#[]⟩, .nil, false, by simp [Fr.size], Nat.zero_le _, fun h => (by cases h), fun w e w' h => ?_⟩
    unfold PaPost at h
    rw [hp] at h
    obtain ⟨rfl, hb⟩ := h
    exact ⟨none, 0, rfl, SlT.none w' 5 _ none 0, hb⟩
  | some x =>
    obtain ⟨hv, hl⟩ := parseAll_valid hp
    have hsz : x.2.2.size ≤ 64 ∧ x.2.1.size ≤ 1 := by
      unfold parseAll at hp
      split at hp
      · rename_i y hy
        split at hp
        · cases hp
          have h1 := (parse_spec 6 l x [] hy).2.1
          have h2 := (parse_spec 6 l x [] hy).2.2
          simp at h1
          exact ⟨by omega, h2⟩
        · cases hp
      · cases hp
    refine ⟨x.1, x.2.1, x.2.2, true, hsz.1, hsz.2, fun _ => ?_, fun w e w' h => ?_⟩
    · unfold formatRx
      rw [if_pos hv]
      exact hl.symm
    · unfold PaPost at h
      rw [hp] at h
      obtain ⟨u, rfl, hs, hb⟩ := h
      obtain ⟨A, c, rfl⟩ := hs.shape
      exact ⟨A, c, rfl, hs, hb⟩
/-- .. of an expression's own text. -/
theorem pa_own (k : Int) (l : ByteArray) (a : Fr) : ∃ (k' : Int) (l' : ByteArray) (a' : Fr), l'.size ≤ 9223372036854775807 ∧ a'.size ≤ 2097152 ∧ (validRx k l a = true → sameRx k' k l' l a' a = true) ∧ ∀ w e w', PaPost (formatRx k l a) w e w' → PaOf k' l' a' (validRx k l a) w e w' := by
  obtain ⟨k', l', a', ok, h1, h2, h3, h4⟩ := pa_all (formatRx k l a)
  cases hv : validRx k l a with
  | true =>
    have hp : parseAll (formatRx k l a) = some (k, l, a) := by unfold formatRx; rw [if_pos hv]; exact parseAll_text hv
    have hsz : a.size ≤ 64 ∧ l.size ≤ 1 := by
      have hq := hp
      unfold parseAll at hq
      split at hq
      · rename_i y hy
        split at hq
        · cases hq
          have h1 := (parse_spec 6 _ _ [] hy).2.1
          have h2 := (parse_spec 6 _ _ [] hy).2.2
          simp at h1 h2
          exact ⟨by omega, h2⟩
        · cases hq
      · cases hq
    refine ⟨k, l, a, by omega, by omega, fun _ => by simp [sameRx], fun w e w' h => ?_⟩
    unfold PaPost at h
    rw [hp] at h
    obtain ⟨u, rfl, hs, hb⟩ := h
    obtain ⟨A, c, rfl⟩ := hs.shape
    exact ⟨A, c, rfl, hs, hb⟩
  | false =>
    have hp : parseAll (formatRx k l a) = none := by unfold formatRx; rw [if_neg (by rw [hv]; decide)]; rfl
    refine ⟨0, ⟨#[]⟩, .nil, by decide, by decide, fun h => (by cases h), fun w e w' h => ?_⟩
    unfold PaPost at h
    rw [hp] at h
    obtain ⟨rfl, hb⟩ := h
    exact ⟨none, 0, rfl, SlT.none w' 5 _ none 0, hb⟩

set_option maxRecDepth 100000 in
set_option maxHeartbeats 3200000 in
theorem lawRxText_any (A : Option Addr) (n c : Nat) (w : World) (h : BL w w.heap.size A n) (hn : n ≤ 1048576) :
    Calls Try.prog 3 #[.slice A n c] w fun e w' => e = .returned (.bool true) ∧ Below w.heap.size w w' := by
  have e1 : decide (1048576 < n) = false := by simp; omega
  have HBig := Lib.hid (big_any A n c w)
  rw [e1] at HBig
  have HDF := Lib.hid (drawFormatRx_any A n c w h hn)
  have HDP := Lib.hid (fun wr (hb : Below w.heap.size w wr) => drawParseRx_any A n c wr ((h.below hb).more hb.size) hn)
  clear h
  go_enter Try.func3, Try.ntmps3
  go_wp2_with fail
  go_at_call 8
  refine HBig.out.mono ?_
  rintro e w0 ⟨rfl, rfl⟩
  go_wp2_with fail
  go_at_call 9
  refine HDF.out.mono ?_
  rintro e w2 ⟨k, l, A', c', a, rfl, -, -, hl, ha, hs, hb2⟩
  obtain ⟨s, hse⟩ : ∃ s : ByteArray, s = ⟨(formatRx k l a).toArray⟩ := ⟨_, rfl⟩
  have hsd : s.data.toList = formatRx k l a := by rw [hse]
  have hss : s.size ≤ 1048576 := by have := format_len k l a ha; rw [hse]; show (formatRx k l a).toArray.size ≤ _; rw [List.size_toArray]; omega
  obtain ⟨k', l', a', hl', ha', hsame, hpa⟩ := pa_own k l a
  have HS := Lib.hid hs
  have HSL := Lib.hid (fun V (hV : Below w2.heap.size w2 V) => own_sl HS.out hV V.heap.size hV.size)
  have HFI := Lib.hid (fun V (hV : Below w2.heap.size w2 V) => implFormat_any 6 V.heap.size k l _ a V (HSL.out V hV) (Nat.le_refl _) (by omega) (by omega))
  have HFS := Lib.hid (fun V (hV : Below w2.heap.size w2 V) => specFormat_any 6 V.heap.size k l _ a V (HSL.out V hV) (Nat.le_refl _) (by omega) (by omega))
  have HVI := Lib.hid (fun V (hV : Below w2.heap.size w2 V) => implValid_any 6 V.heap.size k l _ a V (HSL.out V hV) (Nat.le_refl _) (by omega) (by omega))
  have HVS := Lib.hid (fun V (hV : Below w2.heap.size w2 V) => specValid_any 6 V.heap.size k l _ a V (HSL.out V hV) (Nat.le_refl _) (by omega) (by omega))
  have HPI := Lib.hid (fun V => (implParse_any s V hss).mono (fun e w' h => hpa V e w' (by rw [hsd] at h; exact h)))
  rw [← hse] at HFI HFS
  have BX := box_new w w2 w.heap.size k l (.slice A' a.items.length c') 26 hb2 (Nat.le_refl _)
  have HBX := Lib.hid BX
  obtain ⟨v, hv⟩ : ∃ v, v = validRx k l a := ⟨_, rfl⟩
  rw [← hv] at HVI HVS HPI hsame
  have HSAME := Lib.hid hsame
  clear hs hb2 hse hsd BX hpa hv hsame
  go_wp2_with fail
  obtain ⟨W2, hW2⟩ : ∃ W2, W2 = w2.alloc (.cells #[.int .i64 k, .string l, .slice A' a.items.length c'] 26) := ⟨_, rfl⟩
  rw [← hW2] at HBX ⊢
  clear hW2
  have hz2 := HBX.out.2.2.2
  go_at_call 10
  refine (HFI.out _ HBX.out.2.2.1).mono ?_
  rintro e w3 ⟨rfl, hb3⟩
  have HB3 := Lib.hid hb3
  have hz3 := hb3.size
  clear hb3
  go_wp2_with fail
  go_at_call 11
  refine (HPI.out w3).mono ?_
  rintro e w4 ⟨A2, c2, rfl, hs4, hb4⟩
  have BX4 := box_new w3 w4 w3.heap.size k' l' (.slice A2 a'.items.length c2) 26 hb4 (Nat.le_refl _)
  have hz4 := hb4.size
  have HBX4 := Lib.hid BX4
  have HS4 := Lib.hid hs4
  obtain ⟨x0, x1, x2⟩ := HBX.out.2.1.below (HB3.out.trans (BX4.1.mono hz3)) (by omega)
  clear BX4 hs4 hb4
  go_wp2_with fail
  obtain ⟨W4, hW4⟩ : ∃ W4, W4 = w4.alloc (.cells #[.int .i64 k', .string l', .slice A2 a'.items.length c2] 26) := ⟨_, rfl⟩
  rw [← hW4] at HBX4 ⊢
  clear hW4 x0 x1 x2
  have hzW4 := HBX4.out.2.2.2
  have HD4 := Lib.hid (HB3.out.trans (HBX4.out.1.mono hz3))
  go_at_call 12
  refine (HFS.out _ (HBX.out.2.2.1.trans (HD4.out.mono (by omega)))).mono ?_
  rintro e w5 ⟨rfl, hb5⟩
  have HB5 := Lib.hid hb5
  have hz5 := hb5.size
  have HD5 := Lib.hid (HD4.out.trans (hb5.mono HD4.out.size))
  obtain ⟨x0, x1, x2⟩ := HBX.out.2.1.below HD5.out (by omega)
  clear hb5
  go_wp2_with fail
  go_at_call 13
  refine (HVS.out _ (HBX.out.2.2.1.trans (HD5.out.mono (by omega)))).mono ?_
  rintro e w6 ⟨rfl, hb6⟩
  have HB6 := Lib.hid (HB5.out.trans (hb6.mono hz5))
  have HD6 := Lib.hid (HD5.out.trans (hb6.mono HD5.out.size))
  clear hb6 x0 x1 x2
  obtain ⟨x0, x1, x2⟩ := HBX.out.2.1.below HD6.out (by omega)
  go_wp2_with fail
  go_at_call 14
  refine (HVI.out _ (HBX.out.2.2.1.trans (HD6.out.mono (by omega)))).mono ?_
  rintro e w7 ⟨rfl, hb7⟩
  have HB7 := Lib.hid (HB6.out.trans (hb7.mono HB6.out.size))
  have HD7 := Lib.hid (HD6.out.trans (hb7.mono HD6.out.size))
  clear hb7 x0 x1 x2
  obtain ⟨x0, x1, x2⟩ := HBX.out.2.1.below HD7.out (by omega)
  obtain ⟨y0, y1, y2⟩ := HBX4.out.2.1.below HB7.out (by omega)
  have hz7 := HB7.out.size
  cases v with
  | false =>
    clear x0 x1 x2 y0 y1 y2
    go_wp2_with fail
    go_at_call 16
    refine (HDP.out _ (HBX.out.1.trans (HD7.out.mono HBX.out.1.size))).mono ?_
    rintro e w9 ⟨t, rfl, ht, hb9⟩
    obtain ⟨k3, l3, a3, ok, ha3, hl3, hfmt, hpt⟩ := pa_all t.data.toList
    have HT := Lib.hid (fun V => (implParse_any t V (by omega)).mono (fun e w' h => hpt V e w' h))
    have HTS := Lib.hid (fun V => (specParse_any t V (by omega)).mono (fun e w' h => hpt V e w' h))
    have HE9 := Lib.hid ((HBX.out.1.trans (HD7.out.mono HBX.out.1.size)).trans (hb9.mono (HBX.out.1.trans (HD7.out.mono HBX.out.1.size)).size))
    have HFM := Lib.hid hfmt
    clear hb9 hpt hfmt
    go_wp2_with fail
    go_at_call 11
    refine (HT.out w9).mono ?_
    rintro e w10 ⟨A5, c5, rfl, hs10, hb10⟩
    have BX10 := box_new w9 w10 w9.heap.size k3 l3 (.slice A5 a3.items.length c5) 26 hb10 (Nat.le_refl _)
    have HBX10 := Lib.hid BX10
    have HS10 := Lib.hid hs10
    clear BX10 hs10 hb10
    go_wp2_with fail
    obtain ⟨W10, hW10⟩ : ∃ W10, W10 = w10.alloc (.cells #[.int .i64 k3, .string l3, .slice A5 a3.items.length c5] 26) := ⟨_, rfl⟩
    rw [← hW10] at HBX10 ⊢
    clear hW10
    have hz10 := HBX10.out.2.2.2
    go_at_call 17
    refine (HTS.out W10).mono ?_
    rintro e w11 ⟨A6, c6, rfl, -, hb11⟩
    have BX11 := box_new W10 w11 W10.heap.size k3 l3 (.slice A6 a3.items.length c6) 26 hb11 (Nat.le_refl _)
    obtain ⟨y0, y1, y2⟩ := HBX10.out.2.1.below BX11.1 (by omega)
    have HSW := Lib.hid (own_sl HS10.out (HBX10.out.2.2.1.trans (BX11.1.mono (by omega))) w11.heap.size (by have := hb11.size; omega))
    have HE11 := Lib.hid (HE9.out.trans ((HBX10.out.1.trans (BX11.1.mono HBX10.out.1.size)).mono HE9.out.size))
    have HGI := Lib.hid (implFormat_any 6 _ k3 l3 _ a3 _ HSW.out (by rw [World.size_alloc]; omega) (by omega) (by omega))
    clear BX11 hb11
    cases ok with
    | false =>
      go_wp2_with fail
      go_ret
      exact ⟨rfl, HE11.out⟩
    | true =>
      have hte : (⟨(formatRx k3 l3 a3).toArray⟩ : ByteArray) = t := by rw [HFM.out rfl]
      rw [hte] at HGI
      clear hte
      go_wp2_with fail
      go_at_call 10
      refine HGI.out.mono ?_
      rintro e w12 ⟨rfl, hb12⟩
      have HE12 := Lib.hid (HE11.out.trans (hb12.mono HE11.out.size))
      clear hb12
      go_wp2_with fail
      go_ret
      exact ⟨rfl, HE12.out⟩
  | true =>
    have HEQ := Lib.hid (implEqual_own 5 5 (OwnB w3 w4) (OwnB w w2) k' k l' l (.slice A2 a'.items.length c2) (.slice A' a.items.length c') a' a w7
      (HS4.out.mono (fun h hh => (HBX4.out.2.2.1.trans (HB7.out.mono (by omega))).block h hh.2) (fun _ h => h)) (HS.out.mono (fun h hh => (HBX.out.2.2.1.trans (HD7.out.mono (by omega))).block h hh.2) (fun _ h => h))
      (fun h hh => by have := hh.2; omega) (fun h hh => by have := hh.2; omega) (fun h hh hh' => by have := hh.1; have := hh'.2; omega) hl' (by omega) ha')
    rw [HSAME.out rfl] at HEQ
    go_wp2_with fail
    go_at_call 15
    refine HEQ.out.mono ?_
    rintro e w8 ⟨rfl, hb8⟩
    have HD8 := Lib.hid (HD7.out.trans (hb8.mono HD7.out.size))
    clear hb8 x0 x1 x2 y0 y1 y2
    go_wp2_with fail
    go_at_call 16
    refine (HDP.out _ (HBX.out.1.trans (HD8.out.mono HBX.out.1.size))).mono ?_
    rintro e w9 ⟨t, rfl, ht, hb9⟩
    obtain ⟨k3, l3, a3, ok, ha3, hl3, hfmt, hpt⟩ := pa_all t.data.toList
    have HT := Lib.hid (fun V => (implParse_any t V (by omega)).mono (fun e w' h => hpt V e w' h))
    have HTS := Lib.hid (fun V => (specParse_any t V (by omega)).mono (fun e w' h => hpt V e w' h))
    have HE9 := Lib.hid ((HBX.out.1.trans (HD8.out.mono HBX.out.1.size)).trans (hb9.mono (HBX.out.1.trans (HD8.out.mono HBX.out.1.size)).size))
    have HFM := Lib.hid hfmt
    clear hb9 hpt hfmt
    go_wp2_with fail
    go_at_call 11
    refine (HT.out w9).mono ?_
    rintro e w10 ⟨A5, c5, rfl, hs10, hb10⟩
    have BX10 := box_new w9 w10 w9.heap.size k3 l3 (.slice A5 a3.items.length c5) 26 hb10 (Nat.le_refl _)
    have HBX10 := Lib.hid BX10
    have HS10 := Lib.hid hs10
    clear BX10 hs10 hb10
    go_wp2_with fail
    obtain ⟨W10, hW10⟩ : ∃ W10, W10 = w10.alloc (.cells #[.int .i64 k3, .string l3, .slice A5 a3.items.length c5] 26) := ⟨_, rfl⟩
    rw [← hW10] at HBX10 ⊢
    clear hW10
    have hz10 := HBX10.out.2.2.2
    go_at_call 17
    refine (HTS.out W10).mono ?_
    rintro e w11 ⟨A6, c6, rfl, -, hb11⟩
    have BX11 := box_new W10 w11 W10.heap.size k3 l3 (.slice A6 a3.items.length c6) 26 hb11 (Nat.le_refl _)
    obtain ⟨y0, y1, y2⟩ := HBX10.out.2.1.below BX11.1 (by omega)
    have HSW := Lib.hid (own_sl HS10.out (HBX10.out.2.2.1.trans (BX11.1.mono (by omega))) w11.heap.size (by have := hb11.size; omega))
    have HE11 := Lib.hid (HE9.out.trans ((HBX10.out.1.trans (BX11.1.mono HBX10.out.1.size)).mono HE9.out.size))
    have HGI := Lib.hid (implFormat_any 6 _ k3 l3 _ a3 _ HSW.out (by rw [World.size_alloc]; omega) (by omega) (by omega))
    clear BX11 hb11
    cases ok with
    | false =>
      go_wp2_with fail
      go_ret
      exact ⟨rfl, HE11.out⟩
    | true =>
      have hte : (⟨(formatRx k3 l3 a3).toArray⟩ : ByteArray) = t := by rw [HFM.out rfl]
      rw [hte] at HGI
      clear hte
      go_wp2_with fail
      go_at_call 10
      refine HGI.out.mono ?_
      rintro e w12 ⟨rfl, hb12⟩
      have HE12 := Lib.hid (HE11.out.trans (hb12.mono HE11.out.size))
      clear hb12
      go_wp2_with fail
      go_ret
      exact ⟨rfl, HE12.out⟩
end Go.Proofs.Ytfhghgbiemjddaa
