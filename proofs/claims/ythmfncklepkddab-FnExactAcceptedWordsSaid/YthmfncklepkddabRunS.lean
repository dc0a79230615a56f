/-
  What spec.RunDfa answers.
-/
import Derived.Test.YthmfncklepkddabAuD
import Derived.Test.YthmfncklepkddabVDfaS
import Derived.Test.YthmfncklepkddabIsWordS
import Derived.Deep.RegionHeld3
namespace Go.Proofs.Ythmfncklepkddab
open Go.RowKit

set_option maxRecDepth 100000 in
set_option maxHeartbeats 1600000 in
theorem specRun_yes (va vn : Value) (d : Dx) (S : Nat → Prop) (q0 : Int) (s : ByteArray) (w : World) (h : DfaV w S va vn d) (hv : validD d = true) (hq0 : 0 ≤ q0) (hq1 : q0 ≤ (d.acc.length : Int) - 1) (hs : isW s.data.toList = true) :
    Calls Try.prog 39 #[.agg #[va, vn], .int .i64 q0, .string s] w fun e w' => e = .returned (.tuple #[.int .i64 (((auD d).run q0.toNat (idxs s.data.toList) : Nat) : Int), .bool true]) ∧ Below w.heap.size w w' := by
  obtain ⟨hw, hn, hnn, hl, ad, c, ad', c', rfl, rfl, hA, hT⟩ := h.au hv
  have hz : s.size ≤ 30 := by
    have h := hs
    unfold isW at h
    simp only [Bool.and_eq_true, decide_eq_true_eq] at h
    simpa using h.2
  have hall : s.data.toList.all isLetter = true := by
    unfold isW at hs
    simp only [Bool.and_eq_true] at hs
    exact hs.1
  obtain ⟨W0, hW0⟩ : ∃ W0, W0 = w.alloc (.cells #[.slice (some ad) d.acc.length c, .slice (some ad') d.acc.length c'] 28) := ⟨_, rfl⟩
  have HB0 : Hid (Below w.heap.size w W0) := Lib.hid (by rw [hW0]; exact (Below.refl _ _).alloc (Nat.le_refl _) _)
  have HX : Hid (Bx2 W0 w.heap.size (.slice (some ad) d.acc.length c) (.slice (some ad') d.acc.length c')) := Lib.hid (by
    have k := box2_kept (w := w) (w1 := W0) (a := .slice (some ad) d.acc.length c) (b := .slice (some ad') d.acc.length c') (t := 28) (by rw [hW0]; exact Below.refl _ _)
    exact ⟨k.2.1, k.2.2.1⟩)
  have HV := Lib.hid (fun (V : World) (hV : Below w.heap.size w V) => specValidD_any _ _ d S V (h.kept hV))
  rw [hv] at HV
  have HI := Lib.hid (fun w => specIsWord_any s w (by unfold maxLen; omega))
  rw [hs] at HI
  obtain ⟨n, hne⟩ : ∃ n, n = d.acc.length := ⟨_, rfl⟩
  have HL := Lib.hid (fun w => l1In_yes q0 0 ((n : Int) - 1) w (by rw [hne]; exact ⟨hq0, hq1⟩))
  obtain ⟨q, rfl⟩ : ∃ q : Nat, q0 = q := ⟨q0.toNat, by omega⟩
  have HT : Hid (∀ p, p < n → ∃ ad2 c2, w.cell? (ad'.add p) = some (.slice (some ad2) 3 c2) ∧ ∀ k, k < 3 → w.cell? (ad2.add k) = some (.int .i64 (((auD d).T p k : Nat) : Int))) := Lib.hid (by rw [hne]; exact hT)
  have HW := Lib.hid hw
  have HALL := Lib.hid hall
  rw [← hne] at hW0 HX HV ⊢ hnn hq1
  have hn40 : n ≤ 40 := by omega
  have HN := Lib.hid hnn
  clear h hv hs hl hA hT hw hn hall hne hnn
  go_enter Try.func39, Try.ntmps39
  go_wp2_with fail
  rw [← hW0]
  go_at_call 18
  refine (HV.out W0 HB0.out).mono ?_
  rintro e w1 ⟨rfl, hb1⟩
  have HB1 := Lib.hid (HB0.out.trans (hb1.mono HB0.out.size))
  obtain ⟨c0, c1⟩ := HX.out.kept hb1
  have HX1 := Lib.hid (HX.out.kept hb1)
  clear hb1 hW0
  go_wp2_with fail
  go_at_call 19
  refine (HL.out _).mono ?_
  rintro e w2 ⟨rfl, rfl⟩
  go_wp2_with (go_at_call 43; refine (HI.out _).mono ?_; rintro e w' ⟨rfl, rfl⟩)
  go_loopw [8, 9] (fun y i wr => ∃ k p : Nat, i = .int .i64 k ∧ y = .int .i64 (p : Int) ∧ k ≤ s.size ∧ p < n ∧ Hid (p = (auD d).run q (idxs (s.data.toList.take k))) ∧ Below w1.heap.size w1 wr) (fun _ i _ => s.size - (intOf i).toNat)
  case atStart => exact ⟨0, q, rfl, rfl, Nat.zero_le _, by omega, Lib.hid rfl, Below.refl _ _⟩
  case round =>
    obtain ⟨k, p, rfl, rfl, hk, hp, hpe, hb⟩ := hrel
    have HBr := Lib.hid hb
    clear hb c0 c1
    by_cases hlt : k < s.size
    · have hlet : isLetter s[k] = true := by
        have := List.all_eq_true.1 HALL.out s[k] (List.mem_iff_getElem.2 ⟨k, by simpa using hlt, rfl⟩)
        exact this
      obtain ⟨hl, h97, h99⟩ := letIdx_yes hlet
      obtain ⟨y, hy⟩ : ∃ y, y = letIdx s[k] := ⟨_, rfl⟩
      have hy0 : 0 ≤ y := by omega
      have hy3 : y < 3 := by omega
      obtain ⟨ad2, c2, hrow, hel⟩ := HT.out p hp
      have hel := hel y.toNat (by omega)
      obtain ⟨p2, hp2⟩ : ∃ p2, p2 = (auD d).T p y.toNat := ⟨_, rfl⟩
      rw [← hp2] at hel
      have HP2 : Hid (p2 < n ∧ p2 = (auD d).run q (idxs (s.data.toList.take (k + 1)))) := Lib.hid (by
        refine ⟨?_, ?_⟩
        · rw [hp2, ← HN.out]
          exact HW.out.2 p _ (by rw [HN.out]; exact hp) (by omega)
        · rw [List.take_succ_eq_append_getElem (by simpa using hlt)]
          unfold idxs
          rw [List.map_append, List.map_cons, List.map_nil, run_snoc]
          rw [hp2, hpe.out, hy]
          rfl)
      have HC := Lib.hid (fun V => specLet_any s[k] V)
      rw [← hy] at HC
      have HK := Lib.hid (fun (V : World) (hV : Below wr.heap.size wr V) => (⟨((HX1.out.kept HBr.out).kept hV).2, (HB1.out.trans ((HBr.out.trans (hV.mono HBr.out.size)).mono HB1.out.size)).cell (cell_in hrow) |>.trans hrow, (HB1.out.trans ((HBr.out.trans (hV.mono HBr.out.size)).mono HB1.out.size)).cell (cell_in hel) |>.trans hel⟩ :
        V.cell? ⟨w.heap.size, 1, none⟩ = some (.slice (some ad') n c') ∧ V.cell? (ad'.add p) = some (.slice (some ad2) 3 c2) ∧ V.cell? (ad2.add y.toNat) = some (.int .i64 (p2 : Int))))
      have hbw : Below wr.heap.size wr wr := Below.refl _ _
      have s4 : (p : Int) < (n : Int) := by omega
      have s8 : (0 : Int) ≤ (p : Int) := by omega
      have s9 : (0 : Int) ≤ (k : Int) := by omega
      have s10 : (k : Int) < (s.size : Int) := by omega
      clear hrow hel hy hl hlet h97 h99 hp2
      go_wp2_with fail
      go_region_held3 (fun V => V.cell? ⟨w.heap.size, 1, none⟩ = some (.slice (some ad') n c') ∧ V.cell? (ad'.add p) = some (.slice (some ad2) 3 c2) ∧ V.cell? (ad2.add y.toNat) = some (.int .i64 (p2 : Int))) (first | exact HK.out _ hbw.drew | exact HK.out _ hbw) (first | (go_at_call 44; (with_reducible refine (HC.out _).mono ?_); rintro e w3 ⟨rfl, rfl⟩))
      have HB3 := Lib.hid (HBr.out.trans (hbw.drew.mono HBr.out.size))
      clear hbw
      go_wp2_with fail
      go_roundw
      case rel => exact ⟨k + 1, p2, by go_num, rfl, by omega, HP2.out.1, Lib.hid HP2.out.2, HB3.out⟩
      case measure => simp [intOf]; omega
    · obtain rfl : k = s.size := by omega
      have HR : Hid (p = (auD d).run q (idxs s.data.toList)) := Lib.hid (by rw [hpe.out, List.take_of_length_le (by simp)])
      go_wp2_with fail
      go_ret2
      exact ⟨congrArg (fun z : Nat => Ending.returned (.tuple #[.int .i64 (z : Int), .bool true])) HR.out, HB1.out.trans (HBr.out.mono HB1.out.size)⟩

set_option maxRecDepth 100000 in
set_option maxHeartbeats 1600000 in
theorem specRun_no (va vn : Value) (d : Dx) (S : Nat → Prop) (q0 : Int) (s : ByteArray) (w : World) (h : DfaV w S va vn d) (hss : s.size ≤ 9223372036854775807) (hno : runOk d q0 s.data.toList = false) :
    Calls Try.prog 39 #[.agg #[va, vn], .int .i64 q0, .string s] w fun e w' => e = .returned (.tuple #[.int .i64 0, .bool false]) ∧ Below w.heap.size w w' := by
  obtain ⟨⟨A, c, rfl⟩, A', c', rfl⟩ := h.shape
  have hln := h.1.1
  rw [bools_length] at hln
  obtain ⟨W0, hW0⟩ : ∃ W0, W0 = w.alloc (.cells #[.slice A d.acc.length c, .slice A' d.nxt.length c'] 28) := ⟨_, rfl⟩
  have HB0 : Hid (Below w.heap.size w W0) := Lib.hid (by rw [hW0]; exact (Below.refl _ _).alloc (Nat.le_refl _) _)
  have HX : Hid (Bx2 W0 w.heap.size (.slice A d.acc.length c) (.slice A' d.nxt.length c')) := Lib.hid (by
    have k := box2_kept (w := w) (w1 := W0) (a := .slice A d.acc.length c) (b := .slice A' d.nxt.length c') (t := 28) (by rw [hW0]; exact Below.refl _ _)
    exact ⟨k.2.1, k.2.2.1⟩)
  have HV := Lib.hid (fun (V : World) (hV : Below w.heap.size w V) => specValidD_any _ _ d S V (h.kept hV))
  have HI := Lib.hid (fun w => specIsWord_any s w (by unfold maxLen; omega))
  obtain ⟨n, hne⟩ : ∃ n, n = d.acc.length := ⟨_, rfl⟩
  obtain ⟨m, hme⟩ : ∃ m, m = d.nxt.length := ⟨_, rfl⟩
  rw [← hne] at hW0 HX HV hln
  rw [← hme] at hW0 HX HV
  rw [← hne, ← hme]
  have hno' : (validD d && decide (0 ≤ q0) && decide (q0 ≤ (n : Int) - 1) && isW s.data.toList) = false := by rw [hne]; exact hno
  clear h hne hme hno
  cases hv : validD d with
  | false =>
    rw [hv] at HV
    clear hv hno'
    go_enter Try.func39, Try.ntmps39
    go_wp2_with fail
    rw [← hW0]
    go_at_call 18
    refine (HV.out W0 HB0.out).mono ?_
    rintro e w1 ⟨rfl, hb1⟩
    have HB1 := Lib.hid (HB0.out.trans (hb1.mono HB0.out.size))
    clear hb1 hW0
    go_wp2_with fail
    go_ret2
    exact ⟨rfl, HB1.out⟩
  | true =>
    rw [hv] at HV hno'
    rw [Bool.true_and] at hno'
    clear hv
    by_cases hin : 0 ≤ q0 ∧ q0 ≤ (n : Int) - 1
    · have hw : isW s.data.toList = false := by simpa [hin.1, hin.2] using hno'
      rw [hw] at HI
      have HL := Lib.hid (fun w => l1In_yes q0 0 ((n : Int) - 1) w hin)
      clear hno' hw hin
      go_enter Try.func39, Try.ntmps39
      go_wp2_with fail
      rw [← hW0]
      go_at_call 18
      refine (HV.out W0 HB0.out).mono ?_
      rintro e w1 ⟨rfl, hb1⟩
      have HB1 := Lib.hid (HB0.out.trans (hb1.mono HB0.out.size))
      obtain ⟨c0, c1⟩ := HX.out.kept hb1
      clear hb1 hW0
      go_wp2_with fail
      go_at_call 19
      refine (HL.out _).mono ?_
      rintro e w2 ⟨rfl, rfl⟩
      go_wp2_with (go_at_call 43; refine (HI.out _).mono ?_; rintro e w' ⟨rfl, rfl⟩)
      go_ret2
      exact ⟨rfl, HB1.out⟩
    · have HL := Lib.hid (fun w => l1In_no q0 0 ((n : Int) - 1) w hin)
      clear hno' hin
      go_enter Try.func39, Try.ntmps39
      go_wp2_with fail
      rw [← hW0]
      go_at_call 18
      refine (HV.out W0 HB0.out).mono ?_
      rintro e w1 ⟨rfl, hb1⟩
      have HB1 := Lib.hid (HB0.out.trans (hb1.mono HB0.out.size))
      obtain ⟨c0, c1⟩ := HX.out.kept hb1
      clear hb1 hW0
      go_wp2_with fail
      go_at_call 19
      refine (HL.out _).mono ?_
      rintro e w2 ⟨rfl, rfl⟩
      go_wp2_with fail
      go_ret2
      exact ⟨rfl, HB1.out⟩

/-- What RunDfa answers. -/
theorem specRun_any (va vn : Value) (d : Dx) (S : Nat → Prop) (q0 : Int) (s : ByteArray) (w : World) (h : DfaV w S va vn d) (hss : s.size ≤ 9223372036854775807) :
    Calls Try.prog 39 #[.agg #[va, vn], .int .i64 q0, .string s] w fun e w' => e = .returned (.tuple #[.int .i64 (runV d q0 s.data.toList), .bool (runOk d q0 s.data.toList)]) ∧ Below w.heap.size w w' := by
  unfold runV
  cases hok : runOk d q0 s.data.toList with
  | false => exact specRun_no va vn d S q0 s w h hss hok
  | true =>
    unfold runOk at hok
    simp only [Bool.and_eq_true, decide_eq_true_eq] at hok
    exact specRun_yes va vn d S q0 s w h hok.1.1.1 hok.1.1.2 hok.1.2 hok.2

end Go.Proofs.Ythmfncklepkddab
