/-
  What impl.RunDfa and impl.AcceptsWord answer.
-/
import Derived.Test.YthmfncklepkddabAuD
import Derived.Test.YthmfncklepkddabVDfaI
import Derived.Test.YthmfncklepkddabIsWordI
namespace Go.Proofs.Ythmfncklepkddab
open Go.RowKit

set_option maxRecDepth 100000 in
set_option maxHeartbeats 1600000 in
theorem implRun_yes (va vn : Value) (d : Dx) (S : Nat → Prop) (q0 : Int) (s : ByteArray) (w : World) (h : DfaV w S va vn d) (hv : validD d = true) (hq0 : 0 ≤ q0) (hq1 : q0 ≤ (d.acc.length : Int) - 1) (hs : isW s.data.toList = true) :
    Calls Try.prog 41 #[.agg #[va, vn], .int .i64 q0, .string s] w fun e w' => e = .returned (.tuple #[.int .i64 (((auD d).run q0.toNat (idxs s.data.toList) : Nat) : Int), .bool true]) ∧ Below w.heap.size w w' := by
  obtain ⟨hw, hn, hnn, hl, ad, c, ad', c', rfl, rfl, hA, hT⟩ := h.au hv
  have hz : s.size ≤ 30 := by
    have h := hs
    unfold isW at h
    simp only [Bool.and_eq_true, decide_eq_true_eq] at h
    simpa using h.2
  have hall : s.data.toList.all isLetter = true := by
    unfold isW at hs
    simp only [Bool.and_eq_true] at hs
    exact hs.1
  obtain ⟨W0, hW0⟩ : ∃ W0, W0 = w.alloc (.cells #[.slice (some ad) d.acc.length c, .slice (some ad') d.acc.length c'] 28) := ⟨_, rfl⟩
  have HB0 : Hid (Below w.heap.size w W0) := Lib.hid (by rw [hW0]; exact (Below.refl _ _).alloc (Nat.le_refl _) _)
  have HX : Hid (Bx2 W0 w.heap.size (.slice (some ad) d.acc.length c) (.slice (some ad') d.acc.length c')) := Lib.hid (by
    have k := box2_kept (w := w) (w1 := W0) (a := .slice (some ad) d.acc.length c) (b := .slice (some ad') d.acc.length c') (t := 28) (by rw [hW0]; exact Below.refl _ _)
    exact ⟨k.2.1, k.2.2.1⟩)
  have HV := Lib.hid (fun (V : World) (hV : Below w.heap.size w V) => implValidD_any _ _ d S V (h.kept hV))
  rw [hv] at HV
  have HI := Lib.hid (fun w => implIsWord_any s w (by unfold maxLen; omega))
  rw [hs] at HI
  obtain ⟨n, hne⟩ : ∃ n, n = d.acc.length := ⟨_, rfl⟩
  obtain ⟨q, rfl⟩ : ∃ q : Nat, q0 = q := ⟨q0.toNat, by omega⟩
  have HT : Hid (∀ p, p < n → ∃ ad2 c2, w.cell? (ad'.add p) = some (.slice (some ad2) 3 c2) ∧ ∀ k, k < 3 → w.cell? (ad2.add k) = some (.int .i64 (((auD d).T p k : Nat) : Int))) := Lib.hid (by rw [hne]; exact hT)
  have HW := Lib.hid hw
  have HALL := Lib.hid hall
  rw [← hne] at hW0 HX HV ⊢ hnn hq1
  have hn40 : n ≤ 40 := by omega
  have HN := Lib.hid hnn
  clear h hv hs hl hA hT hw hn hall hne hnn
  go_enter Try.func41, Try.ntmps41
  go_wp2_with fail
  rw [← hW0]
  go_at_call 22
  refine (HV.out W0 HB0.out).mono ?_
  rintro e w1 ⟨rfl, hb1⟩
  have HB1 := Lib.hid (HB0.out.trans (hb1.mono HB0.out.size))
  obtain ⟨c0, c1⟩ := HX.out.kept hb1
  have HX1 := Lib.hid (HX.out.kept hb1)
  clear hb1 hW0
  have t0 : decide ((q : Int) < 0) = false := by simp
  have t1 : decide (n ≤ q) = false := by simp; omega
  go_wp2_with (go_at_call 46; refine (HI.out _).mono ?_; rintro e w' ⟨rfl, rfl⟩)
  clear t0 t1
  go_loopw [8, 32] (fun y i wr => ∃ k p : Nat, i = .int .i64 k ∧ y = .int .i64 (p : Int) ∧ k ≤ s.size ∧ p < n ∧ Hid (p = (auD d).run q (idxs (s.data.toList.take k))) ∧ Below w1.heap.size w1 wr) (fun _ i _ => s.size - (intOf i).toNat)
  case atStart => exact ⟨0, q, rfl, rfl, Nat.zero_le _, by omega, Lib.hid rfl, Below.refl _ _⟩
  case round =>
    obtain ⟨k, p, rfl, rfl, hk, hp, hpe, hb⟩ := hrel
    have HBr := Lib.hid hb
    clear hb c0 c1
    by_cases hlt : k < s.size
    · have hlet : isLetter s[k] = true := by
        have := List.all_eq_true.1 HALL.out s[k] (List.mem_iff_getElem.2 ⟨k, by simpa using hlt, rfl⟩)
        exact this
      obtain ⟨hl, h97, h99⟩ := letIdx_yes hlet
      obtain ⟨y, hy⟩ : ∃ y, y = letIdx s[k] := ⟨_, rfl⟩
      have hy0 : 0 ≤ y := by omega
      have hy3 : y < 3 := by omega
      obtain ⟨ad2, c2, hrow, hel⟩ := HT.out p hp
      have hel := hel y.toNat (by omega)
      obtain ⟨p2, hp2⟩ : ∃ p2, p2 = (auD d).T p y.toNat := ⟨_, rfl⟩
      rw [← hp2] at hel
      have HP2 : Hid (p2 < n ∧ p2 = (auD d).run q (idxs (s.data.toList.take (k + 1)))) := Lib.hid (by
        refine ⟨?_, ?_⟩
        · rw [hp2, ← HN.out]
          exact HW.out.2 p _ (by rw [HN.out]; exact hp) (by omega)
        · rw [List.take_succ_eq_append_getElem (by simpa using hlt)]
          unfold idxs
          rw [List.map_append, List.map_cons, List.map_nil, run_snoc]
          rw [hp2, hpe.out, hy]
          rfl)
      have HC := Lib.hid (fun V => implLet_any s[k] V)
      rw [← hy] at HC
      have HK := Lib.hid (fun (V : World) (hV : Below wr.heap.size wr V) => (⟨((HX1.out.kept HBr.out).kept hV).2, (HB1.out.trans ((HBr.out.trans (hV.mono HBr.out.size)).mono HB1.out.size)).cell (cell_in hrow) |>.trans hrow, (HB1.out.trans ((HBr.out.trans (hV.mono HBr.out.size)).mono HB1.out.size)).cell (cell_in hel) |>.trans hel⟩ :
        V.cell? ⟨w.heap.size, 1, none⟩ = some (.slice (some ad') n c') ∧ V.cell? (ad'.add p) = some (.slice (some ad2) 3 c2) ∧ V.cell? (ad2.add y.toNat) = some (.int .i64 (p2 : Int))))
      have hbw : Below wr.heap.size wr wr := Below.refl _ _
      have s4 : (p : Int) < (n : Int) := by omega
      have s8 : (0 : Int) ≤ (p : Int) := by omega
      have s9 : (0 : Int) ≤ (k : Int) := by omega
      have s10 : (k : Int) < (s.size : Int) := by omega
      clear hrow hel hy hl hlet h97 h99 hp2
      go_wp2_with fail
      go_region_held3 (fun V => V.cell? ⟨w.heap.size, 1, none⟩ = some (.slice (some ad') n c') ∧ V.cell? (ad'.add p) = some (.slice (some ad2) 3 c2) ∧ V.cell? (ad2.add y.toNat) = some (.int .i64 (p2 : Int))) (first | exact HK.out _ hbw.drew | exact HK.out _ hbw) (first | (go_at_call 47; (with_reducible refine (HC.out _).mono ?_); rintro e w3 ⟨rfl, rfl⟩))
      have HB3 := Lib.hid (HBr.out.trans (hbw.drew.mono HBr.out.size))
      clear hbw
      go_wp2_with fail
      go_roundw
      case rel => exact ⟨k + 1, p2, by go_num, rfl, by omega, HP2.out.1, Lib.hid HP2.out.2, HB3.out⟩
      case measure => simp [intOf]; omega
    · obtain rfl : k = s.size := by omega
      have HR : Hid (p = (auD d).run q (idxs s.data.toList)) := Lib.hid (by rw [hpe.out, List.take_of_length_le (by simp)])
      go_wp2_with fail
      go_ret2
      exact ⟨congrArg (fun z : Nat => Ending.returned (.tuple #[.int .i64 (z : Int), .bool true])) HR.out, HB1.out.trans (HBr.out.mono HB1.out.size)⟩

set_option maxRecDepth 100000 in
set_option maxHeartbeats 1600000 in
theorem implRun_no (va vn : Value) (d : Dx) (S : Nat → Prop) (q0 : Int) (s : ByteArray) (w : World) (h : DfaV w S va vn d) (hss : s.size ≤ 9223372036854775807) (hno : runOk d q0 s.data.toList = false) :
    Calls Try.prog 41 #[.agg #[va, vn], .int .i64 q0, .string s] w fun e w' => e = .returned (.tuple #[.int .i64 0, .bool false]) ∧ Below w.heap.size w w' := by
  obtain ⟨⟨A, c, rfl⟩, A', c', rfl⟩ := h.shape
  have hln := h.1.1
  rw [bools_length] at hln
  obtain ⟨W0, hW0⟩ : ∃ W0, W0 = w.alloc (.cells #[.slice A d.acc.length c, .slice A' d.nxt.length c'] 28) := ⟨_, rfl⟩
  have HB0 : Hid (Below w.heap.size w W0) := Lib.hid (by rw [hW0]; exact (Below.refl _ _).alloc (Nat.le_refl _) _)
  have HX : Hid (Bx2 W0 w.heap.size (.slice A d.acc.length c) (.slice A' d.nxt.length c')) := Lib.hid (by
    have k := box2_kept (w := w) (w1 := W0) (a := .slice A d.acc.length c) (b := .slice A' d.nxt.length c') (t := 28) (by rw [hW0]; exact Below.refl _ _)
    exact ⟨k.2.1, k.2.2.1⟩)
  have HV := Lib.hid (fun (V : World) (hV : Below w.heap.size w V) => implValidD_any _ _ d S V (h.kept hV))
  have HI := Lib.hid (fun w => implIsWord_any s w (by unfold maxLen; omega))
  obtain ⟨n, hne⟩ : ∃ n, n = d.acc.length := ⟨_, rfl⟩
  obtain ⟨m, hme⟩ : ∃ m, m = d.nxt.length := ⟨_, rfl⟩
  rw [← hne] at hW0 HX HV hln
  rw [← hme] at hW0 HX HV
  rw [← hne, ← hme]
  have hno' : (validD d && decide (0 ≤ q0) && decide (q0 ≤ (n : Int) - 1) && isW s.data.toList) = false := by rw [hne]; exact hno
  clear h hne hme hno
  cases hv : validD d with
  | false =>
    rw [hv] at HV
    clear hv hno'
    go_enter Try.func41, Try.ntmps41
    go_wp2_with fail
    rw [← hW0]
    go_at_call 22
    refine (HV.out W0 HB0.out).mono ?_
    rintro e w1 ⟨rfl, hb1⟩
    have HB1 := Lib.hid (HB0.out.trans (hb1.mono HB0.out.size))
    clear hb1 hW0
    go_wp2_with fail
    go_ret2
    exact ⟨rfl, HB1.out⟩
  | true =>
    rw [hv] at HV hno'
    rw [Bool.true_and] at hno'
    clear hv
    by_cases hin : 0 ≤ q0 ∧ q0 ≤ (n : Int) - 1
    · have hw : isW s.data.toList = false := by simpa [hin.1, hin.2] using hno'
      rw [hw] at HI
      have t0 : ¬ q0 < 0 := by omega
      have t1 : ¬ (n : Int) ≤ q0 := by omega
      clear hno' hw hin
      go_enter Try.func41, Try.ntmps41
      go_wp2_with fail
      rw [← hW0]
      go_at_call 22
      refine (HV.out W0 HB0.out).mono ?_
      rintro e w1 ⟨rfl, hb1⟩
      have HB1 := Lib.hid (HB0.out.trans (hb1.mono HB0.out.size))
      obtain ⟨c0, c1⟩ := HX.out.kept hb1
      clear hb1 hW0
      go_wp2_with (go_at_call 46; refine (HI.out _).mono ?_; rintro e w' ⟨rfl, rfl⟩)
      go_ret2
      exact ⟨rfl, HB1.out⟩
    · by_cases t0 : q0 < 0
      all_goals
        have t1 : q0 < 0 ∨ (n : Int) ≤ q0 := by omega
        try (replace t1 : (n : Int) ≤ q0 := by omega)
        clear hno' hin
        go_enter Try.func41, Try.ntmps41
        go_wp2_with fail
        rw [← hW0]
        go_at_call 22
        refine (HV.out W0 HB0.out).mono ?_
        rintro e w1 ⟨rfl, hb1⟩
        have HB1 := Lib.hid (HB0.out.trans (hb1.mono HB0.out.size))
        obtain ⟨c0, c1⟩ := HX.out.kept hb1
        clear hb1 hW0
        go_wp2_with fail
        go_ret2
        exact ⟨rfl, HB1.out⟩

/-- What RunDfa answers. -/
theorem implRun_any (va vn : Value) (d : Dx) (S : Nat → Prop) (q0 : Int) (s : ByteArray) (w : World) (h : DfaV w S va vn d) (hss : s.size ≤ 9223372036854775807) :
    Calls Try.prog 41 #[.agg #[va, vn], .int .i64 q0, .string s] w fun e w' => e = .returned (.tuple #[.int .i64 (runV d q0 s.data.toList), .bool (runOk d q0 s.data.toList)]) ∧ Below w.heap.size w w' := by
  unfold runV
  cases hok : runOk d q0 s.data.toList with
  | false => exact implRun_no va vn d S q0 s w h hss hok
  | true =>
    unfold runOk at hok
    simp only [Bool.and_eq_true, decide_eq_true_eq] at hok
    exact implRun_yes va vn d S q0 s w h hok.1.1.1 hok.1.1.2 hok.1.2 hok.2

set_option maxRecDepth 100000 in
set_option maxHeartbeats 1600000 in
theorem implAcc_any (va vn : Value) (d : Dx) (S : Nat → Prop) (s : ByteArray) (w : World) (h : DfaV w S va vn d) (hss : s.size ≤ 9223372036854775807) :
    Calls Try.prog 29 #[.agg #[va, vn], .string s] w fun e w' => e = .returned (.bool (accR d s.data.toList)) ∧ Below w.heap.size w w' := by
  have HR := Lib.hid (fun (V : World) (hV : Below w.heap.size w V) => implRun_any va vn d S 0 s V (h.kept hV) hss)
  obtain ⟨W0, hW0⟩ : ∃ W0, W0 = w.alloc (.cells #[va, vn] 28) := ⟨_, rfl⟩
  have HB0 : Hid (Below w.heap.size w W0) := Lib.hid (by rw [hW0]; exact (Below.refl _ _).alloc (Nat.le_refl _) _)
  have HX : Hid (Bx2 W0 w.heap.size va vn) := Lib.hid (by
    have k := box2_kept (w := w) (w1 := W0) (a := va) (b := vn) (t := 28) (by rw [hW0]; exact Below.refl _ _)
    exact ⟨k.2.1, k.2.2.1⟩)
  obtain ⟨⟨A, c, hva⟩, A', c', hvn⟩ := h.shape
  subst hva
  subst hvn
  cases hok : runOk d 0 s.data.toList with
  | false =>
    have HF : Hid (accR d s.data.toList = false) := Lib.hid (by simp [accR, hok])
    unfold runV at HR
    rw [hok] at HR
    clear h hok
    go_enter Try.func29, Try.ntmps29
    go_wp2_with fail
    rw [← hW0]
    go_at_call 41
    refine (HR.out W0 HB0.out).mono ?_
    rintro e w1 ⟨rfl, hb1⟩
    have HB1 := Lib.hid (HB0.out.trans (hb1.mono HB0.out.size))
    clear hb1 hW0
    go_wp2_with fail
    go_ret
    exact ⟨congrArg (fun b : Bool => Ending.returned (.bool b)) HF.out.symm, HB1.out⟩
  | true =>
    have hok2 := hok
    unfold runOk at hok2
    simp only [Bool.and_eq_true, decide_eq_true_eq] at hok2
    obtain ⟨hw, hn, hnn, hl, ad, cc, ad', cc', e1, e2, hA, hT⟩ := h.au hok2.1.1.1
    cases e1
    clear e2
    have hall : s.data.toList.all isLetter = true := by
      have h := hok2.2
      unfold isW at h
      simp only [Bool.and_eq_true] at h
      exact h.1
    obtain ⟨p, hp⟩ : ∃ p, p = (auD d).run 0 (idxs s.data.toList) := ⟨_, rfl⟩
    have hpl : p < d.acc.length := by rw [hp, ← hnn]; exact Au.run_lt hw _ _ (idxs_W3 hall) hw.1
    have hc := hA p hpl
    obtain ⟨b, hb⟩ : ∃ b, b = (auD d).A p := ⟨_, rfl⟩
    rw [← hb] at hc
    have HF : Hid (accR d s.data.toList = b) := Lib.hid (by rw [accR, hok, Bool.true_and, hb, hp])
    unfold runV at HR
    rw [hok] at HR
    simp only [if_true, Int.toNat_zero] at HR
    rw [← hp] at HR
    obtain ⟨n, hne⟩ : ∃ n, n = d.acc.length := ⟨_, rfl⟩
    rw [← hne] at hW0 HX HR hpl
    rw [← hne]
    have s4 : (p : Int) < (n : Int) := by omega
    have HC := Lib.hid (fun (V : World) (hV : Below w.heap.size w V) => (hV.cell (cell_in hc)).trans hc)
    clear h hok hok2 hp hb hc hA hT hw hn hnn hl hall hne
    go_enter Try.func29, Try.ntmps29
    go_wp2_with fail
    rw [← hW0]
    go_at_call 41
    refine (HR.out W0 HB0.out).mono ?_
    rintro e w1 ⟨rfl, hb1⟩
    have HB1 := Lib.hid (HB0.out.trans (hb1.mono HB0.out.size))
    obtain ⟨c0, c1⟩ := HX.out.kept hb1
    have hcv := HC.out w1 HB1.out
    clear hb1 hW0
    go_wp2_with fail
    go_ret
    exact ⟨congrArg (fun b : Bool => Ending.returned (.bool b)) HF.out.symm, HB1.out⟩
end Go.Proofs.Ythmfncklepkddab
