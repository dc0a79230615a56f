/-
  Texts of one proof, one behind the other.
-/
import Derived.Test.YthmfncklepkddaaShelf
import Derived.Deep.RegionHeld3
import Derived.Test.YthmfncklepkddaaMnlPack11

/-
  What impl.RunDfa and impl.AcceptsWord answer.
-/
namespace Go.Proofs.Ythmfncklepkddaa
open Go.RowKit

set_option maxRecDepth 100000 in
set_option maxHeartbeats 1600000 in
theorem implRun_yes (va vn : Value) (d : Dx) (S : Nat → Prop) (q0 : Int) (s : ByteArray) (w : World) (h : DfaV w S va vn d) (hv : validD d = true) (hq0 : 0 ≤ q0) (hq1 : q0 ≤ (d.acc.length : Int) - 1) (hs : isW s.data.toList = true) :
    Calls Try.prog 31 #[.agg #[va, vn], .int .i64 q0, .string s] w fun e w' => e = .returned (.tuple #[.int .i64 (((auD d).run q0.toNat (idxs s.data.toList) : Nat) : Int), .bool true]) ∧ Below w.heap.size w w' := by
  obtain ⟨hw, hn, hnn, hl, ad, c, ad', c', rfl, rfl, hA, hT⟩ := h.au hv
  have hz : s.size ≤ 30 := by
    have h := hs
    unfold isW at h
    simp only [Bool.and_eq_true, decide_eq_true_eq] at h
    simpa using h.2
  have hall : s.data.toList.all isLetter = true := by
    unfold isW at hs
    simp only [Bool.and_eq_true] at hs
    exact hs.1
  obtain ⟨W0, hW0⟩ : ∃ W0, W0 = w.alloc (.cells #[.slice (some ad) d.acc.length c, .slice (some ad') d.acc.length c'] 27) := ⟨_, rfl⟩
  have HB0 : Hid (Below w.heap.size w W0) := Lib.hid (by rw [hW0]; exact (Below.refl _ _).alloc (Nat.le_refl _) _)
  have HX : Hid (Bx2 W0 w.heap.size (.slice (some ad) d.acc.length c) (.slice (some ad') d.acc.length c')) := Lib.hid (by
    have k := box2_kept (w := w) (w1 := W0) (a := .slice (some ad) d.acc.length c) (b := .slice (some ad') d.acc.length c') (t := 27) (by rw [hW0]; exact Below.refl _ _)
    exact ⟨k.2.1, k.2.2.1⟩)
  have HV := Lib.hid (fun (V : World) (hV : Below w.heap.size w V) => implValidD_any _ _ d S V (h.kept hV))
  rw [hv] at HV
  have HI := Lib.hid (fun w => implIsWord_any s w (by unfold maxLen; omega))
  rw [hs] at HI
  obtain ⟨n, hne⟩ : ∃ n, n = d.acc.length := ⟨_, rfl⟩
  obtain ⟨q, rfl⟩ : ∃ q : Nat, q0 = q := ⟨q0.toNat, by omega⟩
  have HT : Hid (∀ p, p < n → ∃ ad2 c2, w.cell? (ad'.add p) = some (.slice (some ad2) 3 c2) ∧ ∀ k, k < 3 → w.cell? (ad2.add k) = some (.int .i64 (((auD d).T p k : Nat) : Int))) := Lib.hid (by rw [hne]; exact hT)
  have HW := Lib.hid hw
  have HALL := Lib.hid hall
  rw [← hne] at hW0 HX HV ⊢ hnn hq1
  have hn40 : n ≤ 40 := by omega
  have HN := Lib.hid hnn
  clear h hv hs hl hA hT hw hn hall hne hnn
  go_enter Try.func31, Try.ntmps31
  go_wp2_with fail
  rw [← hW0]
  go_at_call 28
  refine (HV.out W0 HB0.out).mono ?_
  rintro e w1 ⟨rfl, hb1⟩
  have HB1 := Lib.hid (HB0.out.trans (hb1.mono HB0.out.size))
  obtain ⟨c0, c1⟩ := HX.out.kept hb1
  have HX1 := Lib.hid (HX.out.kept hb1)
  clear hb1 hW0
  have t0 : decide ((q : Int) < 0) = false := by simp
  have t1 : decide (n ≤ q) = false := by simp; omega
  go_wp2_with (go_at_call 74; refine (HI.out _).mono ?_; rintro e w' ⟨rfl, rfl⟩)
  clear t0 t1
  go_loopw [8, 32] (fun y i wr => ∃ k p : Nat, i = .int .i64 k ∧ y = .int .i64 (p : Int) ∧ k ≤ s.size ∧ p < n ∧ Hid (p = (auD d).run q (idxs (s.data.toList.take k))) ∧ Below w1.heap.size w1 wr) (fun _ i _ => s.size - (intOf i).toNat)
  case atStart => exact ⟨0, q, rfl, rfl, Nat.zero_le _, by omega, Lib.hid rfl, Below.refl _ _⟩
  case round =>
    obtain ⟨k, p, rfl, rfl, hk, hp, hpe, hb⟩ := hrel
    have HBr := Lib.hid hb
    clear hb c0 c1
    by_cases hlt : k < s.size
    · have hlet : isLetter s[k] = true := by
        have := List.all_eq_true.1 HALL.out s[k] (List.mem_iff_getElem.2 ⟨k, by simpa using hlt, rfl⟩)
        exact this
      obtain ⟨hl, h97, h99⟩ := letIdx_yes hlet
      obtain ⟨y, hy⟩ : ∃ y, y = letIdx s[k] := ⟨_, rfl⟩
      have hy0 : 0 ≤ y := by omega
      have hy3 : y < 3 := by omega
      obtain ⟨ad2, c2, hrow, hel⟩ := HT.out p hp
      have hel := hel y.toNat (by omega)
      obtain ⟨p2, hp2⟩ : ∃ p2, p2 = (auD d).T p y.toNat := ⟨_, rfl⟩
      rw [← hp2] at hel
      have HP2 : Hid (p2 < n ∧ p2 = (auD d).run q (idxs (s.data.toList.take (k + 1)))) := Lib.hid (by
        refine ⟨?_, ?_⟩
        · rw [hp2, ← HN.out]
          exact HW.out.2 p _ (by rw [HN.out]; exact hp) (by omega)
        · rw [List.take_succ_eq_append_getElem (by simpa using hlt)]
          unfold idxs
          rw [List.map_append, List.map_cons, List.map_nil, run_snoc]
          rw [hp2, hpe.out, hy]
          rfl)
      have HC := Lib.hid (fun V => implLet_any s[k] V)
      rw [← hy] at HC
      have HK := Lib.hid (fun (V : World) (hV : Below wr.heap.size wr V) => (⟨((HX1.out.kept HBr.out).kept hV).2, (HB1.out.trans ((HBr.out.trans (hV.mono HBr.out.size)).mono HB1.out.size)).cell (cell_in hrow) |>.trans hrow, (HB1.out.trans ((HBr.out.trans (hV.mono HBr.out.size)).mono HB1.out.size)).cell (cell_in hel) |>.trans hel⟩ :
        V.cell? ⟨w.heap.size, 1, none⟩ = some (.slice (some ad') n c') ∧ V.cell? (ad'.add p) = some (.slice (some ad2) 3 c2) ∧ V.cell? (ad2.add y.toNat) = some (.int .i64 (p2 : Int))))
      have hbw : Below wr.heap.size wr wr := Below.refl _ _
      have s4 : (p : Int) < (n : Int) := by omega
      have s8 : (0 : Int) ≤ (p : Int) := by omega
      have s9 : (0 : Int) ≤ (k : Int) := by omega
      have s10 : (k : Int) < (s.size : Int) := by omega
      clear hrow hel hy hl hlet h97 h99 hp2
      go_wp2_with fail
      go_region_held3 (fun V => V.cell? ⟨w.heap.size, 1, none⟩ = some (.slice (some ad') n c') ∧ V.cell? (ad'.add p) = some (.slice (some ad2) 3 c2) ∧ V.cell? (ad2.add y.toNat) = some (.int .i64 (p2 : Int))) (first | exact HK.out _ hbw.drew | exact HK.out _ hbw) (first | (go_at_call 75; (with_reducible refine (HC.out _).mono ?_); rintro e w3 ⟨rfl, rfl⟩))
      have HB3 := Lib.hid (HBr.out.trans (hbw.drew.mono HBr.out.size))
      clear hbw
      go_wp2_with fail
      go_roundw
      case rel => exact ⟨k + 1, p2, by go_num, rfl, by omega, HP2.out.1, Lib.hid HP2.out.2, HB3.out⟩
      case measure => simp [intOf]; omega
    · obtain rfl : k = s.size := by omega
      have HR : Hid (p = (auD d).run q (idxs s.data.toList)) := Lib.hid (by rw [hpe.out, List.take_of_length_le (by simp)])
      go_wp2_with fail
      go_ret2
      exact ⟨congrArg (fun z : Nat => Ending.returned (.tuple #[.int .i64 (z : Int), .bool true])) HR.out, HB1.out.trans (HBr.out.mono HB1.out.size)⟩

set_option maxRecDepth 100000 in
set_option maxHeartbeats 1600000 in
theorem implRun_no (va vn : Value) (d : Dx) (S : Nat → Prop) (q0 : Int) (s : ByteArray) (w : World) (h : DfaV w S va vn d) (hss : s.size ≤ 9223372036854775807) (hno : runOk d q0 s.data.toList = false) :
    Calls Try.prog 31 #[.agg #[va, vn], .int .i64 q0, .string s] w fun e w' => e = .returned (.tuple #[.int .i64 0, .bool false]) ∧ Below w.heap.size w w' := by
  obtain ⟨⟨A, c, rfl⟩, A', c', rfl⟩ := h.shape
  have hln := h.1.1
  rw [bools_length] at hln
  obtain ⟨W0, hW0⟩ : ∃ W0, W0 = w.alloc (.cells #[.slice A d.acc.length c, .slice A' d.nxt.length c'] 27) := ⟨_, rfl⟩
  have HB0 : Hid (Below w.heap.size w W0) := Lib.hid (by rw [hW0]; exact (Below.refl _ _).alloc (Nat.le_refl _) _)
  have HX : Hid (Bx2 W0 w.heap.size (.slice A d.acc.length c) (.slice A' d.nxt.length c')) := Lib.hid (by
    have k := box2_kept (w := w) (w1 := W0) (a := .slice A d.acc.length c) (b := .slice A' d.nxt.length c') (t := 27) (by rw [hW0]; exact Below.refl _ _)
    exact ⟨k.2.1, k.2.2.1⟩)
  have HV := Lib.hid (fun (V : World) (hV : Below w.heap.size w V) => implValidD_any _ _ d S V (h.kept hV))
  have HI := Lib.hid (fun w => implIsWord_any s w (by unfold maxLen; omega))
  obtain ⟨n, hne⟩ : ∃ n, n = d.acc.length := ⟨_, rfl⟩
  obtain ⟨m, hme⟩ : ∃ m, m = d.nxt.length := ⟨_, rfl⟩
  rw [← hne] at hW0 HX HV hln
  rw [← hme] at hW0 HX HV
  rw [← hne, ← hme]
  have hno' : (validD d && decide (0 ≤ q0) && decide (q0 ≤ (n : Int) - 1) && isW s.data.toList) = false := by rw [hne]; exact hno
  clear h hne hme hno
  cases hv : validD d with
  | false =>
    rw [hv] at HV
    clear hv hno'
    go_enter Try.func31, Try.ntmps31
    go_wp2_with fail
    rw [← hW0]
    go_at_call 28
    refine (HV.out W0 HB0.out).mono ?_
    rintro e w1 ⟨rfl, hb1⟩
    have HB1 := Lib.hid (HB0.out.trans (hb1.mono HB0.out.size))
    clear hb1 hW0
    go_wp2_with fail
    go_ret2
    exact ⟨rfl, HB1.out⟩
  | true =>
    rw [hv] at HV hno'
    rw [Bool.true_and] at hno'
    clear hv
    by_cases hin : 0 ≤ q0 ∧ q0 ≤ (n : Int) - 1
    · have hw : isW s.data.toList = false := by simpa [hin.1, hin.2] using hno'
      rw [hw] at HI
      have t0 : ¬ q0 < 0 := by omega
      have t1 : ¬ (n : Int) ≤ q0 := by omega
      clear hno' hw hin
      go_enter Try.func31, Try.ntmps31
      go_wp2_with fail
      rw [← hW0]
      go_at_call 28
      refine (HV.out W0 HB0.out).mono ?_
      rintro e w1 ⟨rfl, hb1⟩
      have HB1 := Lib.hid (HB0.out.trans (hb1.mono HB0.out.size))
      obtain ⟨c0, c1⟩ := HX.out.kept hb1
      clear hb1 hW0
      go_wp2_with (go_at_call 74; refine (HI.out _).mono ?_; rintro e w' ⟨rfl, rfl⟩)
      go_ret2
      exact ⟨rfl, HB1.out⟩
    · by_cases t0 : q0 < 0
      all_goals
        have t1 : q0 < 0 ∨ (n : Int) ≤ q0 := by omega
        try (replace t1 : (n : Int) ≤ q0 := by omega)
        clear hno' hin
        go_enter Try.func31, Try.ntmps31
        go_wp2_with fail
        rw [← hW0]
        go_at_call 28
        refine (HV.out W0 HB0.out).mono ?_
        rintro e w1 ⟨rfl, hb1⟩
        have HB1 := Lib.hid (HB0.out.trans (hb1.mono HB0.out.size))
        obtain ⟨c0, c1⟩ := HX.out.kept hb1
        clear hb1 hW0
        go_wp2_with fail
        go_ret2
        exact ⟨rfl, HB1.out⟩

/-- What RunDfa answers. -/
theorem implRun_any (va vn : Value) (d : Dx) (S : Nat → Prop) (q0 : Int) (s : ByteArray) (w : World) (h : DfaV w S va vn d) (hss : s.size ≤ 9223372036854775807) :
    Calls Try.prog 31 #[.agg #[va, vn], .int .i64 q0, .string s] w fun e w' => e = .returned (.tuple #[.int .i64 (runV d q0 s.data.toList), .bool (runOk d q0 s.data.toList)]) ∧ Below w.heap.size w w' := by
  unfold runV
  cases hok : runOk d q0 s.data.toList with
  | false => exact implRun_no va vn d S q0 s w h hss hok
  | true =>
    unfold runOk at hok
    simp only [Bool.and_eq_true, decide_eq_true_eq] at hok
    exact implRun_yes va vn d S q0 s w h hok.1.1.1 hok.1.1.2 hok.1.2 hok.2

set_option maxRecDepth 100000 in
set_option maxHeartbeats 1600000 in
theorem implAcc_any (va vn : Value) (d : Dx) (S : Nat → Prop) (s : ByteArray) (w : World) (h : DfaV w S va vn d) (hss : s.size ≤ 9223372036854775807) :
    Calls Try.prog 19 #[.agg #[va, vn], .string s] w fun e w' => e = .returned (.bool (accR d s.data.toList)) ∧ Below w.heap.size w w' := by
  have HR := Lib.hid (fun (V : World) (hV : Below w.heap.size w V) => implRun_any va vn d S 0 s V (h.kept hV) hss)
  obtain ⟨W0, hW0⟩ : ∃ W0, W0 = w.alloc (.cells #[va, vn] 27) := ⟨_, rfl⟩
  have HB0 : Hid (Below w.heap.size w W0) := Lib.hid (by rw [hW0]; exact (Below.refl _ _).alloc (Nat.le_refl _) _)
  have HX : Hid (Bx2 W0 w.heap.size va vn) := Lib.hid (by
    have k := box2_kept (w := w) (w1 := W0) (a := va) (b := vn) (t := 27) (by rw [hW0]; exact Below.refl _ _)
    exact ⟨k.2.1, k.2.2.1⟩)
  obtain ⟨⟨A, c, hva⟩, A', c', hvn⟩ := h.shape
  subst hva
  subst hvn
  cases hok : runOk d 0 s.data.toList with
  | false =>
    have HF : Hid (accR d s.data.toList = false) := Lib.hid (by simp [accR, hok])
    unfold runV at HR
    rw [hok] at HR
    clear h hok
    go_enter Try.func19, Try.ntmps19
    go_wp2_with fail
    rw [← hW0]
    go_at_call 31
    refine (HR.out W0 HB0.out).mono ?_
    rintro e w1 ⟨rfl, hb1⟩
    have HB1 := Lib.hid (HB0.out.trans (hb1.mono HB0.out.size))
    clear hb1 hW0
    go_wp2_with fail
    go_ret
    exact ⟨congrArg (fun b : Bool => Ending.returned (.bool b)) HF.out.symm, HB1.out⟩
  | true =>
    have hok2 := hok
    unfold runOk at hok2
    simp only [Bool.and_eq_true, decide_eq_true_eq] at hok2
    obtain ⟨hw, hn, hnn, hl, ad, cc, ad', cc', e1, e2, hA, hT⟩ := h.au hok2.1.1.1
    cases e1
    clear e2
    have hall : s.data.toList.all isLetter = true := by
      have h := hok2.2
      unfold isW at h
      simp only [Bool.and_eq_true] at h
      exact h.1
    obtain ⟨p, hp⟩ : ∃ p, p = (auD d).run 0 (idxs s.data.toList) := ⟨_, rfl⟩
    have hpl : p < d.acc.length := by rw [hp, ← hnn]; exact Au.run_lt hw _ _ (idxs_W3 hall) hw.1
    have hc := hA p hpl
    obtain ⟨b, hb⟩ : ∃ b, b = (auD d).A p := ⟨_, rfl⟩
    rw [← hb] at hc
    have HF : Hid (accR d s.data.toList = b) := Lib.hid (by rw [accR, hok, Bool.true_and, hb, hp])
    unfold runV at HR
    rw [hok] at HR
    simp only [if_true, Int.toNat_zero] at HR
    rw [← hp] at HR
    obtain ⟨n, hne⟩ : ∃ n, n = d.acc.length := ⟨_, rfl⟩
    rw [← hne] at hW0 HX HR hpl
    rw [← hne]
    have s4 : (p : Int) < (n : Int) := by omega
    have HC := Lib.hid (fun (V : World) (hV : Below w.heap.size w V) => (hV.cell (cell_in hc)).trans hc)
    clear h hok hok2 hp hb hc hA hT hw hn hnn hl hall hne
    go_enter Try.func19, Try.ntmps19
    go_wp2_with fail
    rw [← hW0]
    go_at_call 31
    refine (HR.out W0 HB0.out).mono ?_
    rintro e w1 ⟨rfl, hb1⟩
    have HB1 := Lib.hid (HB0.out.trans (hb1.mono HB0.out.size))
    obtain ⟨c0, c1⟩ := HX.out.kept hb1
    have hcv := HC.out w1 HB1.out
    clear hb1 hW0
    go_wp2_with fail
    go_ret
    exact ⟨congrArg (fun b : Bool => Ending.returned (.bool b)) HF.out.symm, HB1.out⟩
end Go.Proofs.Ythmfncklepkddaa

/-
  What impl.EqualDfa answers: whether two automata hold the same.
-/
namespace Go.Proofs.Ythmfncklepkddaa
open Go.RowKit

set_option maxRecDepth 100000 in
set_option maxHeartbeats 1600000 in
theorem libEqI_any (v v' : Value) (l l' : List Int) (S S' : Nat → Prop) (w : World) (h : RowV w S v (ints l)) (h' : RowV w S' v' (ints l')) :
    Calls Try.prog 61 #[v, v'] w fun e w' => e = .returned (.bool (decide (l = l'))) ∧ Below w.heap.size w w' := by
  obtain ⟨hl, A, c, rfl⟩ := h.ints_shape
  obtain ⟨hl', A', c', rfl⟩ := h'.ints_shape
  have HE := Lib.hid (fun j (hj : j < l.length) => h.intD hj)
  have HE' := Lib.hid (fun j (hj : j < l'.length) => h'.intD hj)
  clear h h'
  by_cases hlen : l.length = l'.length
  · have HLen := Lib.hid hlen
    have HYes : Hid ((∀ i, i < l.length → l.getD i 0 = l'.getD i 0) → decide (l = l') = true) := Lib.hid (fun h => decide_eq_true (list_eq_of 0 HLen.out h))
    have HNo : Hid (∀ i, l.getD i 0 ≠ l'.getD i 0 → decide (l = l') = false) := Lib.hid (fun i h => decide_eq_false (fun e => h (by rw [e])))
    obtain ⟨b, hb⟩ : ∃ b, b = decide (l = l') := ⟨_, rfl⟩
    rw [← hb] at HYes HNo ⊢
    obtain ⟨n, hn⟩ : ∃ n, n = l.length := ⟨_, rfl⟩
    rw [← hlen] at HE' hl' ⊢
    rw [← hn] at HE HE' hl HYes ⊢
    have HR : Hid (∀ j, j < n → ∃ ad ad', A = some ad ∧ A' = some ad' ∧ w.cell? (ad.add j) = some (.int .i64 (l.getD j 0)) ∧ w.cell? (ad'.add j) = some (.int .i64 (l'.getD j 0))) := Lib.hid (fun j hj => by
      obtain ⟨ad, e, -, hc⟩ := HE.out j hj
      obtain ⟨ad', e', -, hc'⟩ := HE'.out j hj
      exact ⟨ad, ad', e, e', hc, hc'⟩)
    clear hb hn hlen HE HE'
    have hne : ((n : Int) != (n : Int)) = false := by simp
    go_enter Try.func61, Try.ntmps61
    go_wp2_with fail
    clear hne
    go_loopw [13] (fun i wr => ∃ j m : Nat, i = .int .i64 j ∧ j ≤ n ∧ wr = w.drewN m ∧ Hid (∀ i, i < j → l.getD i 0 = l'.getD i 0)) (fun i _ => n - (intOf i).toNat)
    case atStart => exact ⟨0, 0, rfl, Nat.zero_le _, rfl, Lib.hid (fun i hi => absurd hi (Nat.not_lt_zero _))⟩
    case round =>
      obtain ⟨j, m, rfl, hj, rfl, hall⟩ := hrel
      by_cases hlt : j < n
      · obtain ⟨ad, ad', rfl, rfl, hc1, hc2⟩ := HR.out j hlt
        obtain ⟨x, hx⟩ : ∃ x, x = l.getD j 0 := ⟨_, rfl⟩
        obtain ⟨x', hx'⟩ : ∃ x', x' = l'.getD j 0 := ⟨_, rfl⟩
        rw [← hx] at hc1
        rw [← hx'] at hc2
        by_cases hxx : x = x'
        · subst hxx
          have HX : Hid (l.getD j 0 = l'.getD j 0) := Lib.hid (by rw [← hx, ← hx'])
          have hne : (x != x) = false := by simp
          clear hx hx'
          go_wp2_with fail
          go_quiet (fail)
          all_goals go_wp2
          all_goals
            go_roundw
            case rel => exact ⟨j + 1, _, by go_num, by omega, rfl, Lib.hid (fun i hi => by
              by_cases e : i = j
              · rw [e]; exact HX.out
              · exact hall.out i (by omega))⟩
            case measure => simp [intOf]; omega
        · have hne : (x != x') = true := by simpa using hxx
          have HF : Hid (b = false) := Lib.hid (HNo.out j (by rw [← hx, ← hx']; exact hxx))
          clear hx hx' hxx
          go_wp2_with fail
          go_quiet (fail)
          all_goals go_wp2
          all_goals
            go_ret
            exact ⟨congrArg (fun b : Bool => Ending.returned (.bool b)) HF.out.symm, below_draws (below_draws (Below.refl _ _) _) _⟩
      · obtain rfl : j = n := by omega
        have HF : Hid (b = true) := Lib.hid (HYes.out hall.out)
        go_wp2_with fail
        go_ret
        exact ⟨congrArg (fun b : Bool => Ending.returned (.bool b)) HF.out.symm, below_draws (Below.refl _ _) m⟩
  · have HF : Hid (decide (l = l') = false) := Lib.hid (decide_eq_false (fun e => hlen (by rw [e])))
    have hne : ((l.length : Int) != (l'.length : Int)) = true := by simp; omega
    clear hlen
    go_enter Try.func61, Try.ntmps61
    go_wp2_with fail
    go_ret
    exact ⟨congrArg (fun b : Bool => Ending.returned (.bool b)) HF.out.symm, Below.refl _ _⟩
set_option maxRecDepth 100000 in
set_option maxHeartbeats 1600000 in
theorem libEqB_any (v v' : Value) (l l' : List Bool) (S S' : Nat → Prop) (w : World) (h : RowV w S v (bools l)) (h' : RowV w S' v' (bools l')) :
    Calls Try.prog 59 #[v, v'] w fun e w' => e = .returned (.bool (decide (l = l'))) ∧ Below w.heap.size w w' := by
  have hl := h.1
  have hl' := h'.1
  obtain ⟨A, c, rfl⟩ := h.shape
  obtain ⟨A', c', rfl⟩ := h'.shape
  rw [bools_length] at hl hl' h h' ⊢
  rw [bools_length]
  have HE := Lib.hid (fun j (hj : j < l.length) => h.boolD hj)
  have HE' := Lib.hid (fun j (hj : j < l'.length) => h'.boolD hj)
  clear h h'
  by_cases hlen : l.length = l'.length
  · have HLen := Lib.hid hlen
    have HYes : Hid ((∀ i, i < l.length → l.getD i false = l'.getD i false) → decide (l = l') = true) := Lib.hid (fun h => decide_eq_true (list_eq_of false HLen.out h))
    have HNo : Hid (∀ i, l.getD i false ≠ l'.getD i false → decide (l = l') = false) := Lib.hid (fun i h => decide_eq_false (fun e => h (by rw [e])))
    obtain ⟨b, hb⟩ : ∃ b, b = decide (l = l') := ⟨_, rfl⟩
    rw [← hb] at HYes HNo ⊢
    obtain ⟨n, hn⟩ : ∃ n, n = l.length := ⟨_, rfl⟩
    rw [← hlen] at HE' hl' ⊢
    rw [← hn] at HE HE' hl HYes ⊢
    have HR : Hid (∀ j, j < n → ∃ ad ad', A = some ad ∧ A' = some ad' ∧ w.cell? (ad.add j) = some (.bool (l.getD j false)) ∧ w.cell? (ad'.add j) = some (.bool (l'.getD j false))) := Lib.hid (fun j hj => by
      obtain ⟨ad, e, -, hc⟩ := HE.out j hj
      obtain ⟨ad', e', -, hc'⟩ := HE'.out j hj
      exact ⟨ad, ad', e, e', hc, hc'⟩)
    clear hb hn hlen HE HE'
    have hne : ((n : Int) != (n : Int)) = false := by simp
    go_enter Try.func59, Try.ntmps59
    go_wp2_with fail
    clear hne
    go_loopw [13] (fun i wr => ∃ j m : Nat, i = .int .i64 j ∧ j ≤ n ∧ wr = w.drewN m ∧ Hid (∀ i, i < j → l.getD i false = l'.getD i false)) (fun i _ => n - (intOf i).toNat)
    case atStart => exact ⟨0, 0, rfl, Nat.zero_le _, rfl, Lib.hid (fun i hi => absurd hi (Nat.not_lt_zero _))⟩
    case round =>
      obtain ⟨j, m, rfl, hj, rfl, hall⟩ := hrel
      by_cases hlt : j < n
      · obtain ⟨ad, ad', rfl, rfl, hc1, hc2⟩ := HR.out j hlt
        obtain ⟨x, hx⟩ : ∃ x, x = l.getD j false := ⟨_, rfl⟩
        obtain ⟨x', hx'⟩ : ∃ x', x' = l'.getD j false := ⟨_, rfl⟩
        rw [← hx] at hc1
        rw [← hx'] at hc2
        by_cases hxx : x = x'
        · subst hxx
          have HX : Hid (l.getD j false = l'.getD j false) := Lib.hid (by rw [← hx, ← hx'])
          have hne : (x != x) = false := by simp
          clear hx hx'
          go_wp2_with fail
          go_quiet (fail)
          all_goals go_wp2
          all_goals
            go_roundw
            case rel => exact ⟨j + 1, _, by go_num, by omega, rfl, Lib.hid (fun i hi => by
              by_cases e : i = j
              · rw [e]; exact HX.out
              · exact hall.out i (by omega))⟩
            case measure => simp [intOf]; omega
        · have HF : Hid (b = false) := Lib.hid (HNo.out j (by rw [← hx, ← hx']; exact hxx))
          clear hx hx'
          rcases bool_ne hxx with ⟨rfl, rfl⟩ | ⟨rfl, rfl⟩
          all_goals
            clear hxx
            go_wp2_with fail
            go_quiet (fail)
            go_wp2
            go_ret
            exact ⟨congrArg (fun b : Bool => Ending.returned (.bool b)) HF.out.symm, below_draws (below_draws (Below.refl _ _) _) _⟩
      · obtain rfl : j = n := by omega
        have HF : Hid (b = true) := Lib.hid (HYes.out hall.out)
        go_wp2_with fail
        go_ret
        exact ⟨congrArg (fun b : Bool => Ending.returned (.bool b)) HF.out.symm, below_draws (Below.refl _ _) m⟩
  · have HF : Hid (decide (l = l') = false) := Lib.hid (decide_eq_false (fun e => hlen (by rw [e])))
    have hne : ((l.length : Int) != (l'.length : Int)) = true := by simp; omega
    clear hlen
    go_enter Try.func59, Try.ntmps59
    go_wp2_with fail
    go_ret
    exact ⟨congrArg (fun b : Bool => Ending.returned (.bool b)) HF.out.symm, Below.refl _ _⟩

set_option maxRecDepth 100000 in
set_option maxHeartbeats 1600000 in
theorem libEqF_any (v v' : Value) (l l' : List (List Int)) (S S' : Nat → Prop) (w : World) (h : RowVV w S v (intss l)) (h' : RowVV w S' v' (intss l')) :
    Calls Try.prog 60 #[v, v', .func (.func 61) #[] #[]] w fun e w' => e = .returned (.bool (decide (l = l'))) ∧ Below w.heap.size w w' := by
  obtain ⟨hl, A, c, rfl⟩ := h.shape
  obtain ⟨hl', A', c', rfl⟩ := h'.shape
  rw [intss_length] at hl hl' h h' ⊢
  rw [intss_length]
  have HE := Lib.hid (fun j (hj : j < l.length) => h.atD hj)
  have HE' := Lib.hid (fun j (hj : j < l'.length) => h'.atD hj)
  clear h h'
  by_cases hlen : l.length = l'.length
  · have HLen := Lib.hid hlen
    have HYes : Hid ((∀ i, i < l.length → l.getD i [] = l'.getD i []) → decide (l = l') = true) := Lib.hid (fun h => decide_eq_true (list_eq_of [] HLen.out h))
    have HNo : Hid (∀ i, l.getD i [] ≠ l'.getD i [] → decide (l = l') = false) := Lib.hid (fun i h => decide_eq_false (fun e => h (by rw [e])))
    obtain ⟨b, hb⟩ : ∃ b, b = decide (l = l') := ⟨_, rfl⟩
    rw [← hb] at HYes HNo ⊢
    obtain ⟨n, hn⟩ : ∃ n, n = l.length := ⟨_, rfl⟩
    rw [← hlen] at HE' hl' ⊢
    rw [← hn] at HE HE' hl HYes ⊢
    have HR : Hid (∀ j, j < n → ∃ ad ad' u u', A = some ad ∧ A' = some ad' ∧ w.cell? (ad.add j) = some u ∧ w.cell? (ad'.add j) = some u' ∧ RowV w S u (ints (l.getD j [])) ∧ RowV w S' u' (ints (l'.getD j []))) := Lib.hid (fun j hj => by
      obtain ⟨ad, u, e, -, hc, h1⟩ := HE.out j hj
      obtain ⟨ad', u', e', -, hc', h2⟩ := HE'.out j hj
      exact ⟨ad, ad', u, u', e, e', hc, hc', h1, h2⟩)
    clear hb hn hlen HE HE'
    have hne : ((n : Int) != (n : Int)) = false := by simp
    go_enter Try.func60, Try.ntmps60
    go_wp2_with fail
    clear hne
    go_loopw [17] (fun i wr => ∃ j : Nat, i = .int .i64 j ∧ j ≤ n ∧ Below w.heap.size w wr ∧ Hid (∀ i, i < j → l.getD i [] = l'.getD i [])) (fun i _ => n - (intOf i).toNat)
    case atStart => exact ⟨0, rfl, Nat.zero_le _, Below.refl _ _, Lib.hid (fun i hi => absurd hi (Nat.not_lt_zero _))⟩
    case round =>
      obtain ⟨j, rfl, hj, hb, hall⟩ := hrel
      have HBr := Lib.hid hb
      clear hb
      by_cases hlt : j < n
      · obtain ⟨ad, ad', u, u', rfl, rfl, hc1, hc2, hr1, hr2⟩ := HR.out j hlt
        have g1 := (HBr.out.cell (cell_in hc1)).trans hc1
        have g2 := (HBr.out.cell (cell_in hc2)).trans hc2
        have HC := Lib.hid (libEqI_any u u' (l.getD j []) (l'.getD j []) S S' wr (hr1.kept HBr.out) (hr2.kept HBr.out))
        obtain ⟨bb, hbb⟩ : ∃ bb, bb = decide (l.getD j [] = l'.getD j []) := ⟨_, rfl⟩
        rw [← hbb] at HC
        have HBB := Lib.hid hbb
        clear hbb hc1 hc2 hr1 hr2
        go_wp2_with fail
        go_at_call 61
        refine HC.out.mono ?_
        rintro e w1 ⟨rfl, hb1⟩
        have HB1 := Lib.hid (HBr.out.trans (hb1.mono HBr.out.size))
        clear hb1 g1 g2
        cases bb with
        | true =>
          have HX : Hid (l.getD j [] = l'.getD j []) := Lib.hid (of_decide_eq_true HBB.out.symm)
          go_wp2_with fail
          go_roundw
          case rel => exact ⟨j + 1, by go_num, by omega, HB1.out, Lib.hid (fun i hi => by
            by_cases e : i = j
            · rw [e]; exact HX.out
            · exact hall.out i (by omega))⟩
          case measure => simp [intOf]; omega
        | false =>
          have HF : Hid (b = false) := Lib.hid (HNo.out j (of_decide_eq_false HBB.out.symm))
          go_wp2_with fail
          go_ret
          exact ⟨congrArg (fun b : Bool => Ending.returned (.bool b)) HF.out.symm, HB1.out⟩
      · obtain rfl : j = n := by omega
        have HF : Hid (b = true) := Lib.hid (HYes.out hall.out)
        go_wp2_with fail
        go_ret
        exact ⟨congrArg (fun b : Bool => Ending.returned (.bool b)) HF.out.symm, HBr.out⟩
  · have HF : Hid (decide (l = l') = false) := Lib.hid (decide_eq_false (fun e => hlen (by rw [e])))
    have hne : ((l.length : Int) != (l'.length : Int)) = true := by simp; omega
    clear hlen
    go_enter Try.func60, Try.ntmps60
    go_wp2_with fail
    go_ret
    exact ⟨congrArg (fun b : Bool => Ending.returned (.bool b)) HF.out.symm, Below.refl _ _⟩

set_option maxRecDepth 100000 in
set_option maxHeartbeats 3200000 in
theorem implEqD_any (va vn va' vn' : Value) (d d' : Dx) (S S' : Nat → Prop) (w : World) (h : DfaV w S va vn d) (h' : DfaV w S' va' vn' d') :
    Calls Try.prog 21 #[.agg #[va, vn], .agg #[va', vn']] w fun e w' => e = .returned (.bool (sameD d d')) ∧ Below w.heap.size w w' := by
  obtain ⟨W0, hW0⟩ : ∃ W0, W0 = (w.alloc (.cells #[va, vn] 27)).alloc (.cells #[va', vn'] 27) := ⟨_, rfl⟩
  have HB0 : Hid (Below w.heap.size w W0) := Lib.hid (by rw [hW0]; exact ((Below.refl _ _).alloc (Nat.le_refl _) _).alloc (by simp) _)
  have HX : Hid (Bx2 W0 w.heap.size va vn ∧ Bx2 W0 (w.heap.size + 1) va' vn') := Lib.hid (by
    have k := box2_kept (w := w) (w1 := W0) (a := va) (b := vn) (t := 27) (by rw [hW0]; exact (Below.refl _ _).alloc (by simp) _)
    have k' := box2_kept (w := w.alloc (.cells #[va, vn] 27)) (w1 := W0) (a := va') (b := vn') (t := 27) (by rw [hW0]; exact Below.refl _ _)
    rw [World.size_alloc] at k'
    exact ⟨⟨k.2.1, k.2.2.1⟩, k'.2.1, k'.2.2.1⟩)
  have HA := Lib.hid (libEqB_any va va' d.acc d'.acc S S' W0 (h.1.kept HB0.out) (h'.1.kept HB0.out))
  have HN := Lib.hid (fun (V : World) (hV : Below w.heap.size w V) => libEqF_any vn vn' d.nxt d'.nxt S S' V (h.2.kept hV) (h'.2.kept hV))
  obtain ⟨ba, hba⟩ : ∃ ba, ba = decide (d.acc = d'.acc) := ⟨_, rfl⟩
  obtain ⟨bn, hbn⟩ : ∃ bn, bn = decide (d.nxt = d'.nxt) := ⟨_, rfl⟩
  rw [← hba] at HA
  rw [← hbn] at HN
  have HR : Hid (sameD d d' = (ba && bn)) := Lib.hid (by rw [hba, hbn, sameD, Bool.decide_and])
  obtain ⟨⟨c0, c1⟩, d0, d1⟩ := HX.out
  rw [hW0] at c0 c1 d0 d1
  clear h h' hba hbn
  go_enter Try.func21, Try.ntmps21
  go_wp2_with fail
  go_at_call 59
  rw [← hW0]
  refine HA.out.mono ?_
  rintro e w1 ⟨rfl, hb1⟩
  have HB1 := Lib.hid (HB0.out.trans (hb1.mono HB0.out.size))
  have HX1 := Lib.hid (And.intro (HX.out.1.kept hb1) (HX.out.2.kept hb1))
  clear hW0 c0 c1 d0 d1 hb1
  cases ba with
  | false =>
    go_wp2_with fail
    go_ret
    exact ⟨congrArg (fun b : Bool => Ending.returned (.bool b)) HR.out.symm, HB1.out⟩
  | true =>
    obtain ⟨⟨c0, c1⟩, d0, d1⟩ := HX1.out
    go_wp2_with fail
    go_at_call 60
    refine (HN.out w1 HB1.out).mono ?_
    rintro e w2 ⟨rfl, hb2⟩
    have HB2 := Lib.hid (HB1.out.trans (hb2.mono HB1.out.size))
    clear hb2 c0 c1 d0 d1
    go_wp2_with fail
    go_ret
    exact ⟨congrArg (fun b : Bool => Ending.returned (.bool b)) HR.out.symm, HB2.out⟩
end Go.Proofs.Ythmfncklepkddaa

/-
  laws.FnMinimal answers true at every slice of bytes in old memory; behind the call nothing that was there has turned.
-/
namespace Go.Proofs.Ythmfncklepkddaa
open Go.RowKit

set_option maxRecDepth 100000 in
set_option maxHeartbeats 20000000 in
theorem lawMnl_any (A : Option Addr) (n c : Nat) (w : World) (h : BL w w.heap.size A n) (hnm : n ≤ 9223372036854775807) :
    Calls Try.prog 3 #[.slice A n c] w fun e w' => e = .returned (.bool true) ∧ Below w.heap.size w w' := by
  by_cases hz : 1048576 < n
  · have e1 : decide ((n : Int) > 1048576) = true := by simp; omega
    clear h
    go_enter Try.func3, Try.ntmps3
    go_wp2
    go_ret
    exact ⟨rfl, Below.refl _ _⟩
  · have e1 : decide ((n : Int) > 1048576) = false := by simp; omega
    have HBL := Lib.hid h
    have HD := Lib.hid (drawDif_any A n c w h (by omega))
    clear h
    go_enter Try.func3, Try.ntmps3
    go_wp2_with (go_at_call 12; go_in)
    refine HD.out.mono ?_
    rintro e w1 ⟨va, vn, da, vb, vm, db, rfl, hda, hdb, hl4, hl6, hb1⟩
    have hsz : da.acc.length * db.acc.length ≤ 31 := by have := Nat.mul_le_mul hl4 hl6; omega
    have HSz := Lib.hid hsz
    clear hl4 hl6 hsz
    obtain ⟨⟨Aa, qa, rfl⟩, An, qn, rfl⟩ := hda.shape
    obtain ⟨⟨Ba, pa, rfl⟩, Bn, pn, rfl⟩ := hdb.shape
    have HB1 := Lib.hid hb1
    clear hb1
    obtain ⟨x, hx⟩ := minR_some da
    obtain ⟨y, hy⟩ := minR_some db
    obtain ⟨s, ok, ht⟩ := tellR_some true da db
    have HX := Lib.hid hx
    have HY := Lib.hid hy
    have HT := Lib.hid ht
    clear hx hy ht
    have XA0 := Lib.hid (BX.new (t := 27) hda)
    have hb2 : Below w1.heap.size w1 (w1.alloc (.cells #[.slice Aa da.acc.length qa, .slice An da.nxt.length qn] 27)) := (Below.refl _ _).alloc (Nat.le_refl _) _
    have XB := Lib.hid (BX.new (t := 27) (hdb.kept hb2))
    have hb3 : Below (w1.alloc (.cells #[.slice Aa da.acc.length qa, .slice An da.nxt.length qn] 27)).heap.size (w1.alloc (.cells #[.slice Aa da.acc.length qa, .slice An da.nxt.length qn] 27)) ((w1.alloc (.cells #[.slice Aa da.acc.length qa, .slice An da.nxt.length qn] 27)).alloc (.cells #[.slice Ba db.acc.length pa, .slice Bn db.nxt.length pn] 27)) := (Below.refl _ _).alloc (Nat.le_refl _) _
    have XA := Lib.hid (XA0.out.kept hb3)
    have HB2 := Lib.hid (HB1.out.trans ((hb2.trans (hb3.mono hb2.size)).mono HB1.out.size))
    clear XA0 hda hdb hb2 hb3 HB1
    rw [World.size_alloc] at XB
    obtain ⟨c2, e2⟩ := And.intro XA.out.c0 XA.out.c1
    go_wp2_with fail
    obtain ⟨W1, hW1⟩ : ∃ W1, W1 = (w1.alloc (.cells #[.slice Aa da.acc.length qa, .slice An da.nxt.length qn] 27)).alloc (.cells #[.slice Ba db.acc.length pa, .slice Bn db.nxt.length pn] 27) := ⟨_, rfl⟩
    rw [← hW1] at HB2 XA XB c2 e2 ⊢
    clear hW1
    go_at_call 14
    refine (implMinD_any _ _ da x _ W1 XA.out.dfa HX.out).mono ?_
    rintro e w11 hp
    obtain ⟨A11, m11, B11, r11, rfl, ho11, hb11⟩ := hp.shape
    clear hp
    clear c2 e2
    have XA := Lib.hid (XA.out.kept hb11)
    have XB := Lib.hid (XB.out.kept hb11)
    have HB3 := Lib.hid (HB2.out.trans ((hb11).mono HB2.out.size))
    clear HB2
    have XX := Lib.hid (BX.new (t := 27) ho11.dfa)
    have hbk4 : Below w11.heap.size w11 (w11.alloc (.cells #[.slice A11 x.acc.length m11, .slice B11 x.nxt.length r11] 27)) := (Below.refl _ _).alloc (Nat.le_refl _) _
    have XA := Lib.hid (XA.out.kept hbk4)
    have XB := Lib.hid (XB.out.kept hbk4)
    have HB4 := Lib.hid (HB3.out.trans (hbk4.mono HB3.out.size))
    clear HB3 hbk4
    clear ho11 hb11
    obtain ⟨c5, e5⟩ := And.intro XB.out.c0 XB.out.c1
    go_wp2_with fail
    obtain ⟨W4, hW4⟩ : ∃ W4, W4 = w11.alloc (.cells #[.slice A11 x.acc.length m11, .slice B11 x.nxt.length r11] 27) := ⟨_, rfl⟩
    rw [← hW4] at HB4 XA XB XX c5 e5 ⊢
    clear hW4
    go_at_call 14
    refine (implMinD_any _ _ db y _ W4 XB.out.dfa HY.out).mono ?_
    rintro e w12 hp
    obtain ⟨A12, m12, B12, r12, rfl, ho12, hb12⟩ := hp.shape
    clear hp
    clear c5 e5
    have XA := Lib.hid (XA.out.kept hb12)
    have XB := Lib.hid (XB.out.kept hb12)
    have XX := Lib.hid (XX.out.kept hb12)
    have HB6 := Lib.hid (HB4.out.trans ((hb12).mono HB4.out.size))
    clear HB4
    have XY := Lib.hid (BX.new (t := 27) ho12.dfa)
    have hbk7 : Below w12.heap.size w12 (w12.alloc (.cells #[.slice A12 y.acc.length m12, .slice B12 y.nxt.length r12] 27)) := (Below.refl _ _).alloc (Nat.le_refl _) _
    have XA := Lib.hid (XA.out.kept hbk7)
    have XB := Lib.hid (XB.out.kept hbk7)
    have XX := Lib.hid (XX.out.kept hbk7)
    have HB7 := Lib.hid (HB6.out.trans (hbk7.mono HB6.out.size))
    clear HB6 hbk7
    clear ho12 hb12
    obtain ⟨c8, e8⟩ := And.intro XA.out.c0 XA.out.c1
    obtain ⟨c9, e9⟩ := And.intro XB.out.c0 XB.out.c1
    go_wp2_with fail
    obtain ⟨W7, hW7⟩ : ∃ W7, W7 = w12.alloc (.cells #[.slice A12 y.acc.length m12, .slice B12 y.nxt.length r12] 27) := ⟨_, rfl⟩
    rw [← hW7] at HB7 XA XB XX XY c8 e8 c9 e9 ⊢
    clear hW7
    go_at_call 15
    refine (implDif_any _ _ _ _ da db _ _ s ok W7 XA.out.dfa XB.out.dfa HT.out).mono ?_
    rintro e w13 ⟨rfl, hb13⟩
    clear c8 e8 c9 e9
    have XA := Lib.hid (XA.out.kept hb13)
    have XB := Lib.hid (XB.out.kept hb13)
    have XX := Lib.hid (XX.out.kept hb13)
    have XY := Lib.hid (XY.out.kept hb13)
    have HB10 := Lib.hid (HB7.out.trans ((hb13).mono HB7.out.size))
    clear HB7
    clear hb13
    obtain ⟨c11, e11⟩ := And.intro XA.out.c0 XA.out.c1
    obtain ⟨c12, e12⟩ := And.intro XB.out.c0 XB.out.c1
    go_wp2_with fail
    go_at_call 16
    refine (specDif_any _ _ _ _ da db _ _ s ok w13 XA.out.dfa XB.out.dfa HT.out).mono ?_
    rintro e w14 ⟨rfl, hb14⟩
    clear c11 e11 c12 e12
    have XA := Lib.hid (XA.out.kept hb14)
    have XB := Lib.hid (XB.out.kept hb14)
    have XX := Lib.hid (XX.out.kept hb14)
    have XY := Lib.hid (XY.out.kept hb14)
    have HB13 := Lib.hid (HB10.out.trans ((hb14).mono HB10.out.size))
    clear HB10
    clear hb14
    have hno : (ok != ok) = false := by simp
    have HXX := Lib.hid (minR_self HX.out)
    have HK := Lib.hid (fun (V : World) (h : Below w14.heap.size w14 V) => (⟨(XX.out.kept h).c0, (XX.out.kept h).c1, (XA.out.kept h).c0, (XA.out.kept h).c1⟩ : V.cell? ⟨w11.heap.size, 0, none⟩ = some (.slice A11 x.acc.length m11) ∧ V.cell? ⟨w11.heap.size, 1, none⟩ = some (.slice B11 x.nxt.length r11) ∧ V.cell? ⟨w1.heap.size, 0, none⟩ = some (.slice Aa da.acc.length qa) ∧ V.cell? ⟨w1.heap.size, 1, none⟩ = some (.slice An da.nxt.length qn)))
    have hbw : Below w14.heap.size w14 w14 := Below.refl _ _
    go_wp2_with fail
    go_region_held3 (fun V => V.cell? ⟨w11.heap.size, 0, none⟩ = some (.slice A11 x.acc.length m11) ∧ V.cell? ⟨w11.heap.size, 1, none⟩ = some (.slice B11 x.nxt.length r11) ∧ V.cell? ⟨w1.heap.size, 0, none⟩ = some (.slice Aa da.acc.length qa) ∧ V.cell? ⟨w1.heap.size, 1, none⟩ = some (.slice An da.nxt.length qn)) (first | exact HK.out _ hbw.drew | exact HK.out _ hbw) (first | (go_at_call 18; (with_reducible refine (specMinD_any _ _ da x _ _ (XA.out.dfa.kept hbw.drew) HX.out).mono ?_); rintro e wa hp; obtain ⟨Ca, sa, Cn, sn, rfl, hoa, hba⟩ := hp.shape; clear hp; have hbw := hbw.drew.trans (hba.mono hbw.drew.size)) | (go_at_call 17; (with_reducible refine (specEqD_any _ _ _ _ x x _ _ _ (XX.out.dfa.kept hbw) hoa.dfa).mono ?_); rintro e wb ⟨he, hbb⟩; rw [sameD_refl] at he; subst he; have hbw := hbw.trans (hbb.mono hbw.size); clear hoa hba hbb) | (go_at_call 14; (with_reducible refine (implMinD_any _ _ x x _ _ (XX.out.dfa.kept hbw) HXX.out).mono ?_); rintro e wc hp; obtain ⟨Da, ta, Dn, tn, rfl, hoc, hbc⟩ := hp.shape; clear hp; have hbw := hbw.trans (hbc.mono hbw.size)) | (go_at_call 17; (with_reducible refine (specEqD_any _ _ _ _ x x _ _ _ hoc.dfa (XX.out.dfa.kept hbw)).mono ?_); rintro e wd ⟨he, hbd⟩; rw [sameD_refl] at he; subst he; have hbw := hbw.trans (hbd.mono hbw.size); clear hoc hbc hbd) | fail)
    have XA := Lib.hid (XA.out.kept hbw)
    have XB := Lib.hid (XB.out.kept hbw)
    have XX := Lib.hid (XX.out.kept hbw)
    have XY := Lib.hid (XY.out.kept hbw)
    have HB14 := Lib.hid (HB13.out.trans ((hbw).mono HB13.out.size))
    clear HB13
    clear hbw HK
    cases ok with
    | true =>
      obtain ⟨hs30, hac⟩ := tell_acc HT.out HSz.out
      obtain ⟨pa1, hp1⟩ : ∃ p, p = accR da s.data.toList := ⟨_, rfl⟩
      obtain ⟨pb1, hp2⟩ : ∃ p, p = accR db s.data.toList := ⟨_, rfl⟩
      have HPa := Lib.hid (fun (V : World) (hV : Below wd.heap.size wd V) => implAcc_any _ _ da _ s V (XA.out.dfa.kept hV) (by omega))
      have HPb := Lib.hid (fun (V : World) (hV : Below wd.heap.size wd V) => implAcc_any _ _ db _ s V (XB.out.dfa.kept hV) (by omega))
      rw [← hp1] at HPa hac
      rw [← hp2] at HPb hac
      have HAC : Hid ((!pa1 == pb1) = true) := Lib.hid (by cases pa1 <;> cases pb1 <;> simp_all)
      clear hp1 hp2 hac
      have HK := Lib.hid (fun (V : World) (h : Below wd.heap.size wd V) => (⟨(XB.out.kept h).c0, (XB.out.kept h).c1, (XA.out.kept h).c0, (XA.out.kept h).c1⟩ : V.cell? ⟨w1.heap.size + 1, 0, none⟩ = some (.slice Ba db.acc.length pa) ∧ V.cell? ⟨w1.heap.size + 1, 1, none⟩ = some (.slice Bn db.nxt.length pn) ∧ V.cell? ⟨w1.heap.size, 0, none⟩ = some (.slice Aa da.acc.length qa) ∧ V.cell? ⟨w1.heap.size, 1, none⟩ = some (.slice An da.nxt.length qn)))
      have hbw : Below wd.heap.size wd wd := Below.refl _ _
      go_wp2_with fail
      go_region_held3 (fun V => V.cell? ⟨w1.heap.size + 1, 0, none⟩ = some (.slice Ba db.acc.length pa) ∧ V.cell? ⟨w1.heap.size + 1, 1, none⟩ = some (.slice Bn db.nxt.length pn) ∧ V.cell? ⟨w1.heap.size, 0, none⟩ = some (.slice Aa da.acc.length qa) ∧ V.cell? ⟨w1.heap.size, 1, none⟩ = some (.slice An da.nxt.length qn)) (first | exact HK.out _ hbw.drew | exact HK.out _ hbw) (first | (go_at_call 19; (with_reducible refine (HPa.out _ hbw.drew).mono ?_); rintro e wf ⟨rfl, hbf⟩; have hbw := hbw.drew.trans (hbf.mono hbw.drew.size)) | (go_at_call 19; (with_reducible refine (HPb.out _ hbw).mono ?_); rintro e wg ⟨rfl, hbg⟩; have hbw := hbw.trans (hbg.mono hbw.size)) | fail)
      have HBe := Lib.hid (HB14.out.trans (hbw.mono HB14.out.size))
      clear hbw HK
      go_wp2_with fail
      go_ret
      exact ⟨congrArg (fun b : Bool => Ending.returned (.bool b)) HAC.out, HBe.out⟩
    | false =>
      have HS := Lib.hid (fun ha hb => tell_same HT.out ha hb HX.out HY.out)
      obtain ⟨pv, hpv⟩ : ∃ p, p = validD da := ⟨_, rfl⟩
      obtain ⟨qv, hqv⟩ : ∃ q, q = validD db := ⟨_, rfl⟩
      have HVa := Lib.hid (specValidD_any _ _ da _ wd XA.out.dfa)
      have HVb := Lib.hid (fun (V : World) (hV : Below wd.heap.size wd V) => specValidD_any _ _ db _ V (XB.out.dfa.kept hV))
      have HEq := Lib.hid (fun (V : World) (hV : Below wd.heap.size wd V) => implEqD_any _ _ _ _ x y _ _ V (XX.out.dfa.kept hV) (XY.out.dfa.kept hV))
      rw [← hpv] at HVa HS
      rw [← hqv] at HVb HS
      clear hpv hqv
      obtain ⟨ca, cb⟩ := And.intro XA.out.c0 XA.out.c1
      go_wp2_with fail
      go_at_call 20
      refine HVa.out.mono ?_
      rintro e wf ⟨rfl, hbf⟩
      have HBf := Lib.hid hbf
      clear hbf ca cb
      cases pv with
      | false =>
        go_wp2_with fail
        go_ret
        exact ⟨rfl, HB14.out.trans (HBf.out.mono HB14.out.size)⟩
      | true =>
        obtain ⟨ca, cb⟩ := And.intro (XB.out.kept HBf.out).c0 (XB.out.kept HBf.out).c1
        go_wp2_with fail
        go_at_call 20
        refine (HVb.out wf HBf.out).mono ?_
        rintro e wg ⟨rfl, hbg⟩
        have HBg := Lib.hid (HBf.out.trans (hbg.mono HBf.out.size))
        clear hbg ca cb
        cases qv with
        | false =>
          go_wp2_with fail
          go_ret
          exact ⟨rfl, HB14.out.trans (HBg.out.mono HB14.out.size)⟩
        | true =>
          have HE1 := Lib.hid (HEq.out wg HBg.out)
          rw [HS.out (by simp) (by simp)] at HE1
          obtain ⟨ca, cb⟩ := And.intro (XX.out.kept HBg.out).c0 (XX.out.kept HBg.out).c1
          obtain ⟨cc, cd⟩ := And.intro (XY.out.kept HBg.out).c0 (XY.out.kept HBg.out).c1
          go_wp2_with fail
          go_at_call 21
          refine HE1.out.mono ?_
          rintro e wh ⟨rfl, hbh⟩
          have HBh := Lib.hid (HBg.out.trans (hbh.mono HBg.out.size))
          clear hbh ca cb cc cd
          go_wp2_with fail
          go_ret
          exact ⟨rfl, HB14.out.trans (HBh.out.mono HB14.out.size)⟩
end Go.Proofs.Ythmfncklepkddaa
