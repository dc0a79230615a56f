/-
  Texts of one proof, one behind the other.
-/
import Derived.Deep.RegionHeld3
import Derived.BigQuiet
import Derived.Test.YthmfncklepkddaaBoolPack6

/-
  What spec.RunDfa answers.
-/
namespace Go.Proofs.Ythmfncklepkddaa
open Go.RowKit

set_option maxRecDepth 100000 in
set_option maxHeartbeats 1600000 in
theorem specRun_yes (va vn : Value) (d : Dx) (S : Nat → Prop) (q0 : Int) (s : ByteArray) (w : World) (h : DfaV w S va vn d) (hv : validD d = true) (hq0 : 0 ≤ q0) (hq1 : q0 ≤ (d.acc.length : Int) - 1) (hs : isW s.data.toList = true) :
    Calls Try.prog 32 #[.agg #[va, vn], .int .i64 q0, .string s] w fun e w' => e = .returned (.tuple #[.int .i64 (((auD d).run q0.toNat (idxs s.data.toList) : Nat) : Int), .bool true]) ∧ Below w.heap.size w w' := by
  obtain ⟨hw, hn, hnn, hl, ad, c, ad', c', rfl, rfl, hA, hT⟩ := h.au hv
  have hz : s.size ≤ 30 := by
    have h := hs
    unfold isW at h
    simp only [Bool.and_eq_true, decide_eq_true_eq] at h
    simpa using h.2
  have hall : s.data.toList.all isLetter = true := by
    unfold isW at hs
    simp only [Bool.and_eq_true] at hs
    exact hs.1
  obtain ⟨W0, hW0⟩ : ∃ W0, W0 = w.alloc (.cells #[.slice (some ad) d.acc.length c, .slice (some ad') d.acc.length c'] 27) := ⟨_, rfl⟩
  have HB0 : Hid (Below w.heap.size w W0) := Lib.hid (by rw [hW0]; exact (Below.refl _ _).alloc (Nat.le_refl _) _)
  have HX : Hid (Bx2 W0 w.heap.size (.slice (some ad) d.acc.length c) (.slice (some ad') d.acc.length c')) := Lib.hid (by
    have k := box2_kept (w := w) (w1 := W0) (a := .slice (some ad) d.acc.length c) (b := .slice (some ad') d.acc.length c') (t := 27) (by rw [hW0]; exact Below.refl _ _)
    exact ⟨k.2.1, k.2.2.1⟩)
  have HV := Lib.hid (fun (V : World) (hV : Below w.heap.size w V) => specValidD_any _ _ d S V (h.kept hV))
  rw [hv] at HV
  have HI := Lib.hid (fun w => specIsWord_any s w (by unfold maxLen; omega))
  rw [hs] at HI
  obtain ⟨n, hne⟩ : ∃ n, n = d.acc.length := ⟨_, rfl⟩
  have HL := Lib.hid (fun w => l1In_yes q0 0 ((n : Int) - 1) w (by rw [hne]; exact ⟨hq0, hq1⟩))
  obtain ⟨q, rfl⟩ : ∃ q : Nat, q0 = q := ⟨q0.toNat, by omega⟩
  have HT : Hid (∀ p, p < n → ∃ ad2 c2, w.cell? (ad'.add p) = some (.slice (some ad2) 3 c2) ∧ ∀ k, k < 3 → w.cell? (ad2.add k) = some (.int .i64 (((auD d).T p k : Nat) : Int))) := Lib.hid (by rw [hne]; exact hT)
  have HW := Lib.hid hw
  have HALL := Lib.hid hall
  rw [← hne] at hW0 HX HV ⊢ hnn hq1
  have hn40 : n ≤ 40 := by omega
  have HN := Lib.hid hnn
  clear h hv hs hl hA hT hw hn hall hne hnn
  go_enter Try.func32, Try.ntmps32
  go_wp2_with fail
  rw [← hW0]
  go_at_call 20
  refine (HV.out W0 HB0.out).mono ?_
  rintro e w1 ⟨rfl, hb1⟩
  have HB1 := Lib.hid (HB0.out.trans (hb1.mono HB0.out.size))
  obtain ⟨c0, c1⟩ := HX.out.kept hb1
  have HX1 := Lib.hid (HX.out.kept hb1)
  clear hb1 hW0
  go_wp2_with fail
  go_at_call 58
  refine (HL.out _).mono ?_
  rintro e w2 ⟨rfl, rfl⟩
  go_wp2_with (go_at_call 76; refine (HI.out _).mono ?_; rintro e w' ⟨rfl, rfl⟩)
  go_loopw [8, 9] (fun y i wr => ∃ k p : Nat, i = .int .i64 k ∧ y = .int .i64 (p : Int) ∧ k ≤ s.size ∧ p < n ∧ Hid (p = (auD d).run q (idxs (s.data.toList.take k))) ∧ Below w1.heap.size w1 wr) (fun _ i _ => s.size - (intOf i).toNat)
  case atStart => exact ⟨0, q, rfl, rfl, Nat.zero_le _, by omega, Lib.hid rfl, Below.refl _ _⟩
  case round =>
    obtain ⟨k, p, rfl, rfl, hk, hp, hpe, hb⟩ := hrel
    have HBr := Lib.hid hb
    clear hb c0 c1
    by_cases hlt : k < s.size
    · have hlet : isLetter s[k] = true := by
        have := List.all_eq_true.1 HALL.out s[k] (List.mem_iff_getElem.2 ⟨k, by simpa using hlt, rfl⟩)
        exact this
      obtain ⟨hl, h97, h99⟩ := letIdx_yes hlet
      obtain ⟨y, hy⟩ : ∃ y, y = letIdx s[k] := ⟨_, rfl⟩
      have hy0 : 0 ≤ y := by omega
      have hy3 : y < 3 := by omega
      obtain ⟨ad2, c2, hrow, hel⟩ := HT.out p hp
      have hel := hel y.toNat (by omega)
      obtain ⟨p2, hp2⟩ : ∃ p2, p2 = (auD d).T p y.toNat := ⟨_, rfl⟩
      rw [← hp2] at hel
      have HP2 : Hid (p2 < n ∧ p2 = (auD d).run q (idxs (s.data.toList.take (k + 1)))) := Lib.hid (by
        refine ⟨?_, ?_⟩
        · rw [hp2, ← HN.out]
          exact HW.out.2 p _ (by rw [HN.out]; exact hp) (by omega)
        · rw [List.take_succ_eq_append_getElem (by simpa using hlt)]
          unfold idxs
          rw [List.map_append, List.map_cons, List.map_nil, run_snoc]
          rw [hp2, hpe.out, hy]
          rfl)
      have HC := Lib.hid (fun V => specLet_any s[k] V)
      rw [← hy] at HC
      have HK := Lib.hid (fun (V : World) (hV : Below wr.heap.size wr V) => (⟨((HX1.out.kept HBr.out).kept hV).2, (HB1.out.trans ((HBr.out.trans (hV.mono HBr.out.size)).mono HB1.out.size)).cell (cell_in hrow) |>.trans hrow, (HB1.out.trans ((HBr.out.trans (hV.mono HBr.out.size)).mono HB1.out.size)).cell (cell_in hel) |>.trans hel⟩ :
        V.cell? ⟨w.heap.size, 1, none⟩ = some (.slice (some ad') n c') ∧ V.cell? (ad'.add p) = some (.slice (some ad2) 3 c2) ∧ V.cell? (ad2.add y.toNat) = some (.int .i64 (p2 : Int))))
      have hbw : Below wr.heap.size wr wr := Below.refl _ _
      have s4 : (p : Int) < (n : Int) := by omega
      have s8 : (0 : Int) ≤ (p : Int) := by omega
      have s9 : (0 : Int) ≤ (k : Int) := by omega
      have s10 : (k : Int) < (s.size : Int) := by omega
      clear hrow hel hy hl hlet h97 h99 hp2
      go_wp2_with fail
      go_region_held3 (fun V => V.cell? ⟨w.heap.size, 1, none⟩ = some (.slice (some ad') n c') ∧ V.cell? (ad'.add p) = some (.slice (some ad2) 3 c2) ∧ V.cell? (ad2.add y.toNat) = some (.int .i64 (p2 : Int))) (first | exact HK.out _ hbw.drew | exact HK.out _ hbw) (first | (go_at_call 77; (with_reducible refine (HC.out _).mono ?_); rintro e w3 ⟨rfl, rfl⟩))
      have HB3 := Lib.hid (HBr.out.trans (hbw.drew.mono HBr.out.size))
      clear hbw
      go_wp2_with fail
      go_roundw
      case rel => exact ⟨k + 1, p2, by go_num, rfl, by omega, HP2.out.1, Lib.hid HP2.out.2, HB3.out⟩
      case measure => simp [intOf]; omega
    · obtain rfl : k = s.size := by omega
      have HR : Hid (p = (auD d).run q (idxs s.data.toList)) := Lib.hid (by rw [hpe.out, List.take_of_length_le (by simp)])
      go_wp2_with fail
      go_ret2
      exact ⟨congrArg (fun z : Nat => Ending.returned (.tuple #[.int .i64 (z : Int), .bool true])) HR.out, HB1.out.trans (HBr.out.mono HB1.out.size)⟩

set_option maxRecDepth 100000 in
set_option maxHeartbeats 1600000 in
theorem specRun_no (va vn : Value) (d : Dx) (S : Nat → Prop) (q0 : Int) (s : ByteArray) (w : World) (h : DfaV w S va vn d) (hss : s.size ≤ 9223372036854775807) (hno : runOk d q0 s.data.toList = false) :
    Calls Try.prog 32 #[.agg #[va, vn], .int .i64 q0, .string s] w fun e w' => e = .returned (.tuple #[.int .i64 0, .bool false]) ∧ Below w.heap.size w w' := by
  obtain ⟨⟨A, c, rfl⟩, A', c', rfl⟩ := h.shape
  have hln := h.1.1
  rw [bools_length] at hln
  obtain ⟨W0, hW0⟩ : ∃ W0, W0 = w.alloc (.cells #[.slice A d.acc.length c, .slice A' d.nxt.length c'] 27) := ⟨_, rfl⟩
  have HB0 : Hid (Below w.heap.size w W0) := Lib.hid (by rw [hW0]; exact (Below.refl _ _).alloc (Nat.le_refl _) _)
  have HX : Hid (Bx2 W0 w.heap.size (.slice A d.acc.length c) (.slice A' d.nxt.length c')) := Lib.hid (by
    have k := box2_kept (w := w) (w1 := W0) (a := .slice A d.acc.length c) (b := .slice A' d.nxt.length c') (t := 27) (by rw [hW0]; exact Below.refl _ _)
    exact ⟨k.2.1, k.2.2.1⟩)
  have HV := Lib.hid (fun (V : World) (hV : Below w.heap.size w V) => specValidD_any _ _ d S V (h.kept hV))
  have HI := Lib.hid (fun w => specIsWord_any s w (by unfold maxLen; omega))
  obtain ⟨n, hne⟩ : ∃ n, n = d.acc.length := ⟨_, rfl⟩
  obtain ⟨m, hme⟩ : ∃ m, m = d.nxt.length := ⟨_, rfl⟩
  rw [← hne] at hW0 HX HV hln
  rw [← hme] at hW0 HX HV
  rw [← hne, ← hme]
  have hno' : (validD d && decide (0 ≤ q0) && decide (q0 ≤ (n : Int) - 1) && isW s.data.toList) = false := by rw [hne]; exact hno
  clear h hne hme hno
  cases hv : validD d with
  | false =>
    rw [hv] at HV
    clear hv hno'
    go_enter Try.func32, Try.ntmps32
    go_wp2_with fail
    rw [← hW0]
    go_at_call 20
    refine (HV.out W0 HB0.out).mono ?_
    rintro e w1 ⟨rfl, hb1⟩
    have HB1 := Lib.hid (HB0.out.trans (hb1.mono HB0.out.size))
    clear hb1 hW0
    go_wp2_with fail
    go_ret2
    exact ⟨rfl, HB1.out⟩
  | true =>
    rw [hv] at HV hno'
    rw [Bool.true_and] at hno'
    clear hv
    by_cases hin : 0 ≤ q0 ∧ q0 ≤ (n : Int) - 1
    · have hw : isW s.data.toList = false := by simpa [hin.1, hin.2] using hno'
      rw [hw] at HI
      have HL := Lib.hid (fun w => l1In_yes q0 0 ((n : Int) - 1) w hin)
      clear hno' hw hin
      go_enter Try.func32, Try.ntmps32
      go_wp2_with fail
      rw [← hW0]
      go_at_call 20
      refine (HV.out W0 HB0.out).mono ?_
      rintro e w1 ⟨rfl, hb1⟩
      have HB1 := Lib.hid (HB0.out.trans (hb1.mono HB0.out.size))
      obtain ⟨c0, c1⟩ := HX.out.kept hb1
      clear hb1 hW0
      go_wp2_with fail
      go_at_call 58
      refine (HL.out _).mono ?_
      rintro e w2 ⟨rfl, rfl⟩
      go_wp2_with (go_at_call 76; refine (HI.out _).mono ?_; rintro e w' ⟨rfl, rfl⟩)
      go_ret2
      exact ⟨rfl, HB1.out⟩
    · have HL := Lib.hid (fun w => l1In_no q0 0 ((n : Int) - 1) w hin)
      clear hno' hin
      go_enter Try.func32, Try.ntmps32
      go_wp2_with fail
      rw [← hW0]
      go_at_call 20
      refine (HV.out W0 HB0.out).mono ?_
      rintro e w1 ⟨rfl, hb1⟩
      have HB1 := Lib.hid (HB0.out.trans (hb1.mono HB0.out.size))
      obtain ⟨c0, c1⟩ := HX.out.kept hb1
      clear hb1 hW0
      go_wp2_with fail
      go_at_call 58
      refine (HL.out _).mono ?_
      rintro e w2 ⟨rfl, rfl⟩
      go_wp2_with fail
      go_ret2
      exact ⟨rfl, HB1.out⟩

/-- What RunDfa answers. -/
theorem specRun_any (va vn : Value) (d : Dx) (S : Nat → Prop) (q0 : Int) (s : ByteArray) (w : World) (h : DfaV w S va vn d) (hss : s.size ≤ 9223372036854775807) :
    Calls Try.prog 32 #[.agg #[va, vn], .int .i64 q0, .string s] w fun e w' => e = .returned (.tuple #[.int .i64 (runV d q0 s.data.toList), .bool (runOk d q0 s.data.toList)]) ∧ Below w.heap.size w w' := by
  unfold runV
  cases hok : runOk d q0 s.data.toList with
  | false => exact specRun_no va vn d S q0 s w h hss hok
  | true =>
    unfold runOk at hok
    simp only [Bool.and_eq_true, decide_eq_true_eq] at hok
    exact specRun_yes va vn d S q0 s w h hok.1.1.1 hok.1.1.2 hok.1.2 hok.2

end Go.Proofs.Ythmfncklepkddaa

/-
  laws.FnBoolean answers true at every slice of bytes in old memory; behind the call nothing that was there has turned.
-/
namespace Go.Proofs.Ythmfncklepkddaa
open Go.RowKit

/-- An automaton in its box. -/
structure BX (V : World) (g : Nat) (va vn : Value) (d : Dx) : Prop where
  c0 : V.cell? ⟨g, 0, none⟩ = some va
  c1 : V.cell? ⟨g, 1, none⟩ = some vn
  dfa : DfaV V AnyB va vn d
theorem BX.kept {V V' : World} {g : Nat} {va vn : Value} {d : Dx} (h : BX V g va vn d) (hb : Below V.heap.size V V') : BX V' g va vn d :=
  ⟨(hb.cell (cell_in h.c0)).trans h.c0, (hb.cell (cell_in h.c1)).trans h.c1, h.dfa.kept hb⟩
theorem BX.new {w : World} {S : Nat → Prop} {va vn : Value} {d : Dx} {t : TypeId} (h : DfaV w S va vn d) : BX (w.alloc (.cells #[va, vn] t)) w.heap.size va vn d := by
  have k := box2_kept (w := w) (a := va) (b := vn) (t := t) (Below.refl _ _)
  exact ⟨k.2.1, k.2.2.1, (h.kept ((Below.refl _ _).alloc (Nat.le_refl _) _)).mono (fun _ _ => rfl) (fun _ _ => trivial)⟩
theorem BL.upB {w : World} {B B' : Nat} {A : Option Addr} {n : Nat} (h : BL w B A n) (hB : B ≤ B') : BL w B' A n := fun k hk => by
  obtain ⟨ad, z, e, hlt, hc, hz⟩ := h k hk
  exact ⟨ad, z, e, Nat.lt_of_lt_of_le hlt hB, hc, hz⟩

set_option maxRecDepth 100000 in
set_option maxHeartbeats 20000000 in
theorem lawBool_any (A : Option Addr) (n c : Nat) (w : World) (h : BL w w.heap.size A n) (hnm : n ≤ 9223372036854775807) :
    Calls Try.prog 4 #[.slice A n c] w fun e w' => e = .returned (.bool true) ∧ Below w.heap.size w w' := by
  by_cases hz : 1048576 < n
  · have e1 : decide ((n : Int) > 1048576) = true := by simp; omega
    clear h
    go_enter Try.func4, Try.ntmps4
    go_wp2
    go_ret
    exact ⟨rfl, Below.refl _ _⟩
  · have e1 : decide ((n : Int) > 1048576) = false := by simp; omega
    have HBL := Lib.hid h
    have HD := Lib.hid (drawPro_any A n c w h (by omega))
    clear h
    go_enter Try.func4, Try.ntmps4
    go_wp2_with (go_at_call 12; go_in)
    refine HD.out.mono ?_
    rintro e w1 ⟨va, vn, da, vb, vm, db, kind, rfl, hda, hdb, hb1⟩
    obtain ⟨⟨Aa, qa, rfl⟩, An, qn, rfl⟩ := hda.shape
    obtain ⟨⟨Ba, pa, rfl⟩, Bn, pn, rfl⟩ := hdb.shape
    have XA0 := Lib.hid (BX.new (t := 27) hda)
    have BW0 := Lib.hid ((Below.refl w1.heap.size w1).alloc (Nat.le_refl _) (.cells #[.slice Aa da.acc.length qa, .slice An da.nxt.length qn] 27))
    have XB := Lib.hid (BX.new (t := 27) (hdb.kept BW0.out))
    have BW1 := Lib.hid ((Below.refl (w1.alloc (.cells #[.slice Aa da.acc.length qa, .slice An da.nxt.length qn] 27)).heap.size (w1.alloc (.cells #[.slice Aa da.acc.length qa, .slice An da.nxt.length qn] 27))).alloc (Nat.le_refl _) (.cells #[.slice Ba db.acc.length pa, .slice Bn db.nxt.length pn] 27))
    have XA := Lib.hid (XA0.out.kept BW1.out)
    have HB1 := Lib.hid (hb1.trans ((BW0.out.trans (BW1.out.mono BW0.out.size)).mono hb1.size))
    clear XA0 BW0 BW1 hda hdb hb1
    obtain ⟨ca0, ca1⟩ := And.intro XA.out.c0 XA.out.c1
    obtain ⟨cb0, cb1⟩ := And.intro XB.out.c0 XB.out.c1
    obtain ⟨s1, hs1⟩ : ∃ s1, s1 = w1.heap.size := ⟨_, rfl⟩
    rw [World.size_alloc] at cb0 cb1 XB
    obtain ⟨yd, ok, hpr⟩ := proR_some da db kind
    have HPR := Lib.hid hpr
    clear hpr
    go_wp2_with fail
    obtain ⟨W1, hW1⟩ : ∃ W1, W1 = (w1.alloc (.cells #[.slice Aa da.acc.length qa, .slice An da.nxt.length qn] 27)).alloc (.cells #[.slice Ba db.acc.length pa, .slice Bn db.nxt.length pn] 27) := ⟨_, rfl⟩
    rw [← hW1] at HB1 XA XB ca0 ca1 cb0 cb1 ⊢
    clear hW1
    go_at_call 23
    refine (implPro_any _ _ _ _ da db _ _ kind yd ok W1 XA.out.dfa XB.out.dfa HPR.out).mono ?_
    rintro e w2 hp
    obtain ⟨Da, d1, Dn, d2, rfl, ho, hb⟩ := hp.shape
    clear ca0 ca1 cb0 cb1
    have BW := Lib.hid ((Below.refl w2.heap.size w2).alloc (Nat.le_refl _) (.cells #[.slice Da yd.acc.length d1, .slice Dn yd.nxt.length d2] 27))
    have XD := Lib.hid (BX.new (t := 27) ho.dfa)
    have BK := Lib.hid (hb.trans (BW.out.mono hb.size))
    have XA := Lib.hid (XA.out.kept BK.out)
    have XB := Lib.hid (XB.out.kept BK.out)
    have HB2 := Lib.hid (HB1.out.trans (BK.out.mono HB1.out.size))
    clear BW BK HB1
    clear ho hb
    obtain ⟨ca0, ca1⟩ := And.intro XA.out.c0 XA.out.c1
    obtain ⟨cb0, cb1⟩ := And.intro XB.out.c0 XB.out.c1
    obtain ⟨cd0, cd1⟩ := And.intro XD.out.c0 XD.out.c1
    go_wp2_with fail
    obtain ⟨W2, hW2⟩ : ∃ W2, W2 = w2.alloc (.cells #[.slice Da yd.acc.length d1, .slice Dn yd.nxt.length d2] 27) := ⟨_, rfl⟩
    rw [← hW2] at HB2 XA XB XD ca0 ca1 cb0 cb1 cd0 cd1 ⊢
    clear hW2
    go_at_call 24
    refine (specPro_any _ _ _ _ da db _ _ kind yd ok W2 XA.out.dfa XB.out.dfa HPR.out).mono ?_
    rintro e w3 hp
    obtain ⟨Ea, e1', En, e2', rfl, ho, hb⟩ := hp.shape
    clear ca0 ca1 cb0 cb1 cd0 cd1
    have BW := Lib.hid ((Below.refl w3.heap.size w3).alloc (Nat.le_refl _) (.cells #[.slice Ea yd.acc.length e1', .slice En yd.nxt.length e2'] 27))
    have XE := Lib.hid (BX.new (t := 27) ho.dfa)
    have BK := Lib.hid (hb.trans (BW.out.mono hb.size))
    have XA := Lib.hid (XA.out.kept BK.out)
    have XB := Lib.hid (XB.out.kept BK.out)
    have XD := Lib.hid (XD.out.kept BK.out)
    have HB3 := Lib.hid (HB2.out.trans (BK.out.mono HB2.out.size))
    clear BW BK HB2
    clear ho hb
    have HBL3 := Lib.hid ((HBL.out.below HB3.out).upB HB3.out.size)
    go_wp2_with fail
    obtain ⟨W3, hW3⟩ : ∃ W3, W3 = w3.alloc (.cells #[.slice Ea yd.acc.length e1', .slice En yd.nxt.length e2'] 27) := ⟨_, rfl⟩
    rw [← hW3] at HB3 HBL3 XA XB XD XE ⊢
    clear hW3
    refine (drawCom_any A n c W3 HBL3.out (by omega)).mono ?_
    rintro e w4 ⟨vx, vy, dx, rfl, ho, hb⟩
    obtain ⟨⟨Xa, x1, rfl⟩, Xn, x2, rfl⟩ := ho.shape
    clear HBL3
    obtain ⟨dy, hmr⟩ := minR_some dx
    have HMR := Lib.hid hmr
    clear hmr
    have BW := Lib.hid ((Below.refl w4.heap.size w4).alloc (Nat.le_refl _) (.cells #[.slice Xa dx.acc.length x1, .slice Xn dx.nxt.length x2] 27))
    have XX := Lib.hid (BX.new (t := 27) ho)
    have BK := Lib.hid (hb.trans (BW.out.mono hb.size))
    have XA := Lib.hid (XA.out.kept BK.out)
    have XB := Lib.hid (XB.out.kept BK.out)
    have XD := Lib.hid (XD.out.kept BK.out)
    have XE := Lib.hid (XE.out.kept BK.out)
    have HB4 := Lib.hid (HB3.out.trans (BK.out.mono HB3.out.size))
    clear BW BK HB3
    clear ho hb
    obtain ⟨cx0, cx1⟩ := And.intro XX.out.c0 XX.out.c1
    go_wp2_with fail
    obtain ⟨W4, hW4⟩ : ∃ W4, W4 = w4.alloc (.cells #[.slice Xa dx.acc.length x1, .slice Xn dx.nxt.length x2] 27) := ⟨_, rfl⟩
    rw [← hW4] at HB4 XA XB XD XE XX cx0 cx1 ⊢
    clear hW4
    go_at_call 26
    refine (implCom_any _ _ dx dy _ W4 XX.out.dfa HMR.out).mono ?_
    rintro e w5 hp
    obtain ⟨Ya, y1, Yn, y2, rfl, ho, hb⟩ := hp.shape
    clear cx0 cx1
    have BW := Lib.hid ((Below.refl w5.heap.size w5).alloc (Nat.le_refl _) (.cells #[.slice Ya (comD dy).acc.length y1, .slice Yn (comD dy).nxt.length y2] 27))
    have XY := Lib.hid (BX.new (t := 27) ho.dfa)
    have BK := Lib.hid (hb.trans (BW.out.mono hb.size))
    have XA := Lib.hid (XA.out.kept BK.out)
    have XB := Lib.hid (XB.out.kept BK.out)
    have XD := Lib.hid (XD.out.kept BK.out)
    have XE := Lib.hid (XE.out.kept BK.out)
    have XX := Lib.hid (XX.out.kept BK.out)
    have HB5 := Lib.hid (HB4.out.trans (BK.out.mono HB4.out.size))
    clear BW BK HB4
    clear ho hb
    obtain ⟨W5, hW5⟩ : ∃ W5, W5 = w5.alloc (.cells #[.slice Ya (comD dy).acc.length y1, .slice Yn (comD dy).nxt.length y2] 27) := ⟨_, rfl⟩
    rw [← hW5] at HB5 XA XB XD XE XX XY
    have HKC := Lib.hid (fun (V : World) (h : Below W5.heap.size W5 V) => (⟨(XD.out.kept h).c0, (XD.out.kept h).c1, (XE.out.kept h).c0, (XE.out.kept h).c1, (XY.out.kept h).c0, (XY.out.kept h).c1, (XX.out.kept h).c0, (XX.out.kept h).c1, (XA.out.kept h).c0, (XA.out.kept h).c1⟩ :
      V.cell? ⟨w2.heap.size, 0, none⟩ = some (.slice Da yd.acc.length d1) ∧ V.cell? ⟨w2.heap.size, 1, none⟩ = some (.slice Dn yd.nxt.length d2) ∧ V.cell? ⟨w3.heap.size, 0, none⟩ = some (.slice Ea yd.acc.length e1') ∧ V.cell? ⟨w3.heap.size, 1, none⟩ = some (.slice En yd.nxt.length e2') ∧
      V.cell? ⟨w5.heap.size, 0, none⟩ = some (.slice Ya (comD dy).acc.length y1) ∧ V.cell? ⟨w5.heap.size, 1, none⟩ = some (.slice Yn (comD dy).nxt.length y2) ∧ V.cell? ⟨w4.heap.size, 0, none⟩ = some (.slice Xa dx.acc.length x1) ∧ V.cell? ⟨w4.heap.size, 1, none⟩ = some (.slice Xn dx.nxt.length x2) ∧
      V.cell? ⟨w1.heap.size, 0, none⟩ = some (.slice Aa da.acc.length qa) ∧ V.cell? ⟨w1.heap.size, 1, none⟩ = some (.slice An da.nxt.length qn)))
    have HE1 := Lib.hid (fun (V : World) (h : Below W5.heap.size W5 V) => (show Calls Try.prog 17 #[.agg #[.slice Da yd.acc.length d1, .slice Dn yd.nxt.length d2], .agg #[.slice Ea yd.acc.length e1', .slice En yd.nxt.length e2']] V (fun e w' => e = .returned (.bool true) ∧ Below V.heap.size V w') from by
      have k := specEqD_any _ _ _ _ yd yd _ _ V (XD.out.kept h).dfa (XE.out.kept h).dfa
      rwa [sameD_refl] at k))
    have HE2 := Lib.hid (fun (V : World) (h : Below W5.heap.size W5 V) (S : Nat → Prop) (u v : Value) (hu : DfaV V S u v (comD dy)) => (show Calls Try.prog 17 #[.agg #[.slice Ya (comD dy).acc.length y1, .slice Yn (comD dy).nxt.length y2], .agg #[u, v]] V (fun e w' => e = .returned (.bool true) ∧ Below V.heap.size V w') from by
      have k := specEqD_any _ _ _ _ (comD dy) (comD dy) _ _ V (XY.out.kept h).dfa hu
      rwa [sameD_refl] at k))
    have HCm := Lib.hid (fun (V : World) (h : Below W5.heap.size W5 V) => specCom_any _ _ dx dy _ V (XX.out.kept h).dfa HMR.out)
    obtain ⟨bva, hbva⟩ : ∃ b, b = validD da := ⟨_, rfl⟩
    have HV1 := Lib.hid (fun (V : World) (h : Below W5.heap.size W5 V) => implValidD_any _ _ da _ V (XA.out.kept h).dfa)
    have HV2 := Lib.hid (fun (V : World) (h : Below W5.heap.size W5 V) => specValidD_any _ _ da _ V (XA.out.kept h).dfa)
    rw [← hbva] at HV1 HV2
    have hn1 : (ok != ok) = false := by simp
    have hn2 : (bva != bva) = false := by simp
    clear hbva
    go_wp2_with fail
    rw [← hW5]
    clear hW5
    have hbw : Below W5.heap.size W5 W5 := Below.refl _ _
    go_region_held3 (fun V => V.cell? ⟨w2.heap.size, 0, none⟩ = some (.slice Da yd.acc.length d1) ∧ V.cell? ⟨w2.heap.size, 1, none⟩ = some (.slice Dn yd.nxt.length d2) ∧ V.cell? ⟨w3.heap.size, 0, none⟩ = some (.slice Ea yd.acc.length e1') ∧ V.cell? ⟨w3.heap.size, 1, none⟩ = some (.slice En yd.nxt.length e2') ∧
      V.cell? ⟨w5.heap.size, 0, none⟩ = some (.slice Ya (comD dy).acc.length y1) ∧ V.cell? ⟨w5.heap.size, 1, none⟩ = some (.slice Yn (comD dy).nxt.length y2) ∧ V.cell? ⟨w4.heap.size, 0, none⟩ = some (.slice Xa dx.acc.length x1) ∧ V.cell? ⟨w4.heap.size, 1, none⟩ = some (.slice Xn dx.nxt.length x2) ∧
      V.cell? ⟨w1.heap.size, 0, none⟩ = some (.slice Aa da.acc.length qa) ∧ V.cell? ⟨w1.heap.size, 1, none⟩ = some (.slice An da.nxt.length qn)) (first | exact HKC.out _ hbw.drew | exact HKC.out _ hbw)
      (first
        | (go_at_call 17; (first | ((with_reducible refine (HE1.out _ hbw.drew).mono ?_); rintro e wa ⟨rfl, hba⟩; have hbw := hbw.drew.trans (hba.mono hbw.drew.size)) | ((with_reducible refine (HE2.out _ hbw _ _ _ hoc).mono ?_); rintro e wc ⟨rfl, hba⟩; have hbw := hbw.trans (hba.mono hbw.size))))
        | (go_at_call 27; (with_reducible refine (HCm.out _ hbw).mono ?_); rintro e wb hp; obtain ⟨Ca, k1, Cn, k2, rfl, hoc0, hba⟩ := hp.shape; have hoc := hoc0.dfa; clear hp hoc0; have hbw := hbw.trans (hba.mono hbw.size))
        | (go_at_call 28; (with_reducible refine (HV1.out _ hbw).mono ?_); rintro e wd ⟨rfl, hba⟩; have hbw := hbw.trans (hba.mono hbw.size))
        | (go_at_call 20; (with_reducible refine (HV2.out _ hbw).mono ?_); rintro e we ⟨rfl, hba⟩; have hbw := hbw.trans (hba.mono hbw.size)))
    have HB6 := Lib.hid (HB5.out.trans (hbw.mono HB5.out.size))
    have XA := Lib.hid (XA.out.kept hbw)
    have XB := Lib.hid (XB.out.kept hbw)
    have XD := Lib.hid (XD.out.kept hbw)
    have XX := Lib.hid (XX.out.kept hbw)
    have XY := Lib.hid (XY.out.kept hbw)
    clear hbw HKC HE1 HE2 HCm HV1 HV2 hn1 hn2 HB5 XE
    have HWd := Lib.hid (fun V => specTo_any 3 4 V (by omega) (fun k hk => by omega) (fun h => by omega) (by omega))
    have HWS : Hid (∀ s ∈ under 4, isW s = true ∧ s.length ≤ 30) := Lib.hid (fun s hs => by
      have := List.all_eq_true.1 words3 s hs
      simpa using this)
    have hpl : (under 4).length ≤ 364 := under_le 4 (by omega)
    have hpp : 0 < (under 4).length := by decide +kernel
    obtain ⟨ps, hps⟩ : ∃ ps, ps = under 4 := ⟨_, rfl⟩
    rw [← hps] at HWd HWS hpl hpp
    clear hps
    go_wp2_with fail
    refine (HWd.out _).mono ?_
    rintro e w9 ⟨v, rfl, hown, hb9⟩
    have HB9 := Lib.hid (HB6.out.trans (hb9.mono HB6.out.size))
    have XA := Lib.hid (XA.out.kept hb9)
    have XB := Lib.hid (XB.out.kept hb9)
    have XD := Lib.hid (XD.out.kept hb9)
    have XX := Lib.hid (XX.out.kept hb9)
    have XY := Lib.hid (XY.out.kept hb9)
    obtain ⟨g, cap, rfl⟩ : ∃ g cap, v = .slice (some ⟨g, 0, none⟩) ps.length cap := by
      rcases hown.2 with ⟨_, h0⟩ | ⟨g, cap, _, rfl, _⟩
      · omega
      · exact ⟨g, cap, rfl⟩
    have HCell := Lib.hid (fun (V : World) (h : Below w9.heap.size w9 V) (k : Nat) (hk : k < ps.length) => (show V.cell? ⟨g, k, none⟩ = some (.string ⟨(ps[k]'hk).toArray⟩) from by
      have e0 : w9.cell? ⟨g, k, none⟩ = some (.string ⟨(ps[k]'hk).toArray⟩) := by
        rw [hown.cellAt k (by omega)]
        simp [strs]
      exact (h.cell (cell_in e0)).trans e0))
    clear hown hb9 HB6 HWd
    go_wp2_with fail
    go_loopw [13] (fun i wr => ∃ k : Nat, i = .int .i64 (k : Int) ∧ k ≤ ps.length ∧ Hid (Below w9.heap.size w9 wr)) (fun i _ => ps.length - (intOf i).toNat)
    case atStart => exact ⟨0, rfl, Nat.zero_le _, Lib.hid (Below.refl _ _)⟩
    case round =>
      obtain ⟨k, rfl, hk, HBr⟩ := hrel
      by_cases hlt : k < ps.length
      · have hd : decide ((k : Int) < (ps.length : Int)) = true := by simp; omega
        have s1 : (k : Int) < (ps.length : Int) := by omega
        have s2 : (0 : Int) ≤ (k : Int) := by omega
        have hcx := HCell.out wr HBr.out k hlt
        obtain ⟨hw0, hl0⟩ := HWS.out _ (List.getElem_mem hlt)
        obtain ⟨x, hx⟩ : ∃ x : ByteArray, x = ⟨(ps[k]'hlt).toArray⟩ := ⟨_, rfl⟩
        rw [← hx] at hcx
        have hww : isW x.data.toList = true := by rw [hx]; exact hw0
        have hxs : x.size ≤ 9223372036854775807 := by
          rw [hx]
          show (ps[k]'hlt).length ≤ _
          omega
        have HQA := Lib.hid (fun (V : World) (h : Below w9.heap.size w9 V) => implAcc_any _ _ da _ x V (XA.out.kept h).dfa hxs)
        have HQB := Lib.hid (fun (V : World) (h : Below w9.heap.size w9 V) => implAcc_any _ _ db _ x V (XB.out.kept h).dfa hxs)
        have HQD := Lib.hid (fun (V : World) (h : Below w9.heap.size w9 V) => implAcc_any _ _ yd _ x V (XD.out.kept h).dfa hxs)
        have HQX := Lib.hid (fun (V : World) (h : Below w9.heap.size w9 V) => implAcc_any _ _ dx _ x V (XX.out.kept h).dfa hxs)
        have HQY := Lib.hid (fun (V : World) (h : Below w9.heap.size w9 V) => implAcc_any _ _ (comD dy) _ x V (XY.out.kept h).dfa hxs)
        have HVX := Lib.hid (fun (V : World) (h : Below w9.heap.size w9 V) => implValidD_any _ _ dx _ V (XX.out.kept h).dfa)
        have HPA : Hid (ok = true → (kind = 6 ∨ kind = 7) ∧ accR yd x.data.toList = fK kind (accR da x.data.toList) (accR db x.data.toList)) := Lib.hid (fun e => by
          have hpr := HPR.out
          rw [e] at hpr
          exact ⟨pro_kind hpr, pro_acc hpr hww⟩)
        have HCA : Hid (validD dx = true → accR (comD dy) x.data.toList = !accR dx x.data.toList) := Lib.hid (fun e => com_acc HMR.out e hww)
        obtain ⟨p, hp⟩ : ∃ p, p = accR da x.data.toList := ⟨_, rfl⟩
        obtain ⟨q, hq⟩ : ∃ q, q = accR db x.data.toList := ⟨_, rfl⟩
        obtain ⟨r, hr⟩ : ∃ r, r = accR dx x.data.toList := ⟨_, rfl⟩
        obtain ⟨ad, had⟩ : ∃ ad, ad = accR yd x.data.toList := ⟨_, rfl⟩
        obtain ⟨ay, hay⟩ : ∃ ay, ay = accR (comD dy) x.data.toList := ⟨_, rfl⟩
        obtain ⟨vx, hvx⟩ : ∃ vx, vx = validD dx := ⟨_, rfl⟩
        rw [← hp] at HQA HPA
        rw [← hq] at HQB HPA
        rw [← hr] at HQX HCA
        rw [← had] at HQD HPA
        rw [← hay] at HQY HCA
        rw [← hvx] at HVX HCA
        clear hp hq hr had hay hvx hx hw0 hl0 hww
        obtain ⟨ca0, ca1⟩ := And.intro (XA.out.kept HBr.out).c0 (XA.out.kept HBr.out).c1
        go_wp2_with fail
        go_at_call 19
        refine (HQA.out wr HBr.out).mono ?_
        rintro e wa ⟨rfl, hba⟩
        have HBa := Lib.hid (HBr.out.trans (hba.mono HBr.out.size))
        obtain ⟨cb0, cb1⟩ := And.intro (XB.out.kept HBa.out).c0 (XB.out.kept HBa.out).c1
        clear hba ca0 ca1 hd hcx
        go_wp2_with fail
        go_at_call 19
        refine (HQB.out wa HBa.out).mono ?_
        rintro e wb ⟨rfl, hbb⟩
        have HBb := Lib.hid (HBa.out.trans (hbb.mono HBa.out.size))
        clear hbb cb0 cb1
        have HL := Lib.hid (fun (V : World) (h : Below wb.heap.size wb V) => HBb.out.trans (h.mono HBb.out.size))
        have k1 := fun (m : UpW wb) => (XD.out.kept (HL.out _ m.up)).c0
        have k2 := fun (m : UpW wb) => (XD.out.kept (HL.out _ m.up)).c1
        have k3 := fun (m : UpW wb) => (XX.out.kept (HL.out _ m.up)).c0
        have k4 := fun (m : UpW wb) => (XX.out.kept (HL.out _ m.up)).c1
        have k5 := fun (m : UpW wb) => (XY.out.kept (HL.out _ m.up)).c0
        have k6 := fun (m : UpW wb) => (XY.out.kept (HL.out _ m.up)).c1
        have HQD := Lib.hid (fun (m : UpW wb) => up_call (HQD.out _ (HL.out _ m.up)))
        have HQX := Lib.hid (fun (m : UpW wb) => up_call (HQX.out _ (HL.out _ m.up)))
        have HQY := Lib.hid (fun (m : UpW wb) => up_call (HQY.out _ (HL.out _ m.up)))
        have HVX := Lib.hid (fun (m : UpW wb) => up_call (HVX.out _ (HL.out _ m.up)))
        cases ok with
        | false =>
          cases vx with
          | false =>
            go_wp2_with fail
            refine wp_region_up (by kernel_rfl) (by kernel_rfl) ?_
            repeat (go_big_quiet_step ((first | with_reducible exact HQD.out _ | with_reducible exact HQX.out _ | with_reducible exact HQY.out _ | with_reducible exact HVX.out _)))
            refine wpQuiet_nil ?_
            rintro _ ⟨⟨wd, hbw⟩, rfl⟩
            have HBd := Lib.hid (HBb.out.trans (hbw.mono HBb.out.size))
            clear hbw HL k1 k2 k3 k4 k5 k6
            go_wp2_with fail
            go_roundw
            case rel => exact ⟨k + 1, by go_num, by omega, HBd⟩
            case measure => simp [intOf]; omega
          | true =>
            have hay := HCA.out rfl
            subst hay
            have h3 : (r == !r) = false := by cases r <;> rfl
            go_wp2_with fail
            refine wp_region_up (by kernel_rfl) (by kernel_rfl) ?_
            repeat (go_big_quiet_step ((first | with_reducible exact HQD.out _ | with_reducible exact HQX.out _ | with_reducible exact HQY.out _ | with_reducible exact HVX.out _)))
            refine wpQuiet_nil ?_
            rintro _ ⟨⟨wd, hbw⟩, rfl⟩
            have HBd := Lib.hid (HBb.out.trans (hbw.mono HBb.out.size))
            clear hbw HL k1 k2 k3 k4 k5 k6
            go_wp2_with fail
            go_roundw
            case rel => exact ⟨k + 1, by go_num, by omega, HBd⟩
            case measure => simp [intOf]; omega
        | true =>
          obtain ⟨hkd, hacc⟩ := HPA.out rfl
          subst hacc
          rcases hkd with rfl | rfl
          · rw [fK_or] at HQD
            cases p with
            | false =>
              have h4 : (false || q) = q := rfl
              simp only [h4] at HQD
              have h5 : (q != q) = false := by simp
              clear h4
              cases vx with
              | false =>
                go_wp2_with fail
                refine wp_region_up (by kernel_rfl) (by kernel_rfl) ?_
                repeat (go_big_quiet_step ((first | with_reducible exact HQD.out _ | with_reducible exact HQX.out _ | with_reducible exact HQY.out _ | with_reducible exact HVX.out _)))
                refine wpQuiet_nil ?_
                rintro _ ⟨⟨wd, hbw⟩, rfl⟩
                have HBd := Lib.hid (HBb.out.trans (hbw.mono HBb.out.size))
                clear hbw HL k1 k2 k3 k4 k5 k6
                go_wp2_with fail
                go_roundw
                case rel => exact ⟨k + 1, by go_num, by omega, HBd⟩
                case measure => simp [intOf]; omega
              | true =>
                have hay := HCA.out rfl
                subst hay
                have h3 : (r == !r) = false := by cases r <;> rfl
                go_wp2_with fail
                refine wp_region_up (by kernel_rfl) (by kernel_rfl) ?_
                repeat (go_big_quiet_step ((first | with_reducible exact HQD.out _ | with_reducible exact HQX.out _ | with_reducible exact HQY.out _ | with_reducible exact HVX.out _)))
                refine wpQuiet_nil ?_
                rintro _ ⟨⟨wd, hbw⟩, rfl⟩
                have HBd := Lib.hid (HBb.out.trans (hbw.mono HBb.out.size))
                clear hbw HL k1 k2 k3 k4 k5 k6
                go_wp2_with fail
                go_roundw
                case rel => exact ⟨k + 1, by go_num, by omega, HBd⟩
                case measure => simp [intOf]; omega
            | true =>
              have h4 : (true || q) = true := rfl
              simp only [h4] at HQD
              clear h4
              cases vx with
              | false =>
                go_wp2_with fail
                refine wp_region_up (by kernel_rfl) (by kernel_rfl) ?_
                repeat (go_big_quiet_step ((first | with_reducible exact HQD.out _ | with_reducible exact HQX.out _ | with_reducible exact HQY.out _ | with_reducible exact HVX.out _)))
                refine wpQuiet_nil ?_
                rintro _ ⟨⟨wd, hbw⟩, rfl⟩
                have HBd := Lib.hid (HBb.out.trans (hbw.mono HBb.out.size))
                clear hbw HL k1 k2 k3 k4 k5 k6
                go_wp2_with fail
                go_roundw
                case rel => exact ⟨k + 1, by go_num, by omega, HBd⟩
                case measure => simp [intOf]; omega
              | true =>
                have hay := HCA.out rfl
                subst hay
                have h3 : (r == !r) = false := by cases r <;> rfl
                go_wp2_with fail
                refine wp_region_up (by kernel_rfl) (by kernel_rfl) ?_
                repeat (go_big_quiet_step ((first | with_reducible exact HQD.out _ | with_reducible exact HQX.out _ | with_reducible exact HQY.out _ | with_reducible exact HVX.out _)))
                refine wpQuiet_nil ?_
                rintro _ ⟨⟨wd, hbw⟩, rfl⟩
                have HBd := Lib.hid (HBb.out.trans (hbw.mono HBb.out.size))
                clear hbw HL k1 k2 k3 k4 k5 k6
                go_wp2_with fail
                go_roundw
                case rel => exact ⟨k + 1, by go_num, by omega, HBd⟩
                case measure => simp [intOf]; omega
          · rw [fK_and] at HQD
            cases p with
            | false =>
              have h4 : (false && q) = false := rfl
              simp only [h4] at HQD
              clear h4
              cases vx with
              | false =>
                go_wp2_with fail
                refine wp_region_up (by kernel_rfl) (by kernel_rfl) ?_
                repeat (go_big_quiet_step ((first | with_reducible exact HQD.out _ | with_reducible exact HQX.out _ | with_reducible exact HQY.out _ | with_reducible exact HVX.out _)))
                refine wpQuiet_nil ?_
                rintro _ ⟨⟨wd, hbw⟩, rfl⟩
                have HBd := Lib.hid (HBb.out.trans (hbw.mono HBb.out.size))
                clear hbw HL k1 k2 k3 k4 k5 k6
                go_wp2_with fail
                go_roundw
                case rel => exact ⟨k + 1, by go_num, by omega, HBd⟩
                case measure => simp [intOf]; omega
              | true =>
                have hay := HCA.out rfl
                subst hay
                have h3 : (r == !r) = false := by cases r <;> rfl
                go_wp2_with fail
                refine wp_region_up (by kernel_rfl) (by kernel_rfl) ?_
                repeat (go_big_quiet_step ((first | with_reducible exact HQD.out _ | with_reducible exact HQX.out _ | with_reducible exact HQY.out _ | with_reducible exact HVX.out _)))
                refine wpQuiet_nil ?_
                rintro _ ⟨⟨wd, hbw⟩, rfl⟩
                have HBd := Lib.hid (HBb.out.trans (hbw.mono HBb.out.size))
                clear hbw HL k1 k2 k3 k4 k5 k6
                go_wp2_with fail
                go_roundw
                case rel => exact ⟨k + 1, by go_num, by omega, HBd⟩
                case measure => simp [intOf]; omega
            | true =>
              have h4 : (true && q) = q := rfl
              simp only [h4] at HQD
              have h5 : (q != q) = false := by simp
              clear h4
              cases vx with
              | false =>
                go_wp2_with fail
                refine wp_region_up (by kernel_rfl) (by kernel_rfl) ?_
                repeat (go_big_quiet_step ((first | with_reducible exact HQD.out _ | with_reducible exact HQX.out _ | with_reducible exact HQY.out _ | with_reducible exact HVX.out _)))
                refine wpQuiet_nil ?_
                rintro _ ⟨⟨wd, hbw⟩, rfl⟩
                have HBd := Lib.hid (HBb.out.trans (hbw.mono HBb.out.size))
                clear hbw HL k1 k2 k3 k4 k5 k6
                go_wp2_with fail
                go_roundw
                case rel => exact ⟨k + 1, by go_num, by omega, HBd⟩
                case measure => simp [intOf]; omega
              | true =>
                have hay := HCA.out rfl
                subst hay
                have h3 : (r == !r) = false := by cases r <;> rfl
                go_wp2_with fail
                refine wp_region_up (by kernel_rfl) (by kernel_rfl) ?_
                repeat (go_big_quiet_step ((first | with_reducible exact HQD.out _ | with_reducible exact HQX.out _ | with_reducible exact HQY.out _ | with_reducible exact HVX.out _)))
                refine wpQuiet_nil ?_
                rintro _ ⟨⟨wd, hbw⟩, rfl⟩
                have HBd := Lib.hid (HBb.out.trans (hbw.mono HBb.out.size))
                clear hbw HL k1 k2 k3 k4 k5 k6
                go_wp2_with fail
                go_roundw
                case rel => exact ⟨k + 1, by go_num, by omega, HBd⟩
                case measure => simp [intOf]; omega
      · have hd : decide ((k : Int) < (ps.length : Int)) = false := by simp; omega
        have HBz := Lib.hid (HB9.out.trans (HBr.out.mono HB9.out.size))
        have HBL9 := Lib.hid ((HBL.out.below HBz.out).upB HBz.out.size)
        go_wp2_with fail
        refine (drawRun_any A n c wr HBL9.out (by omega)).mono ?_
        rintro e wa ⟨vr, vs, dr, z, p, rfl, ho, hpz, hb⟩
        obtain ⟨⟨Ra, r1, rfl⟩, Rn, r2, rfl⟩ := ho.shape
        have XR := Lib.hid (BX.new (t := 27) ho)
        obtain ⟨cr0, cr1⟩ := And.intro XR.out.c0 XR.out.c1
        have HBa := Lib.hid (HBz.out.trans ((hb.trans (((Below.refl wa.heap.size wa).alloc (Nat.le_refl _) (.cells #[.slice Ra dr.acc.length r1, .slice Rn dr.nxt.length r2] 27)).mono hb.size)).mono HBz.out.size))
        clear ho hb
        go_wp2_with fail
        obtain ⟨WR, hWR⟩ : ∃ WR, WR = wa.alloc (.cells #[.slice Ra dr.acc.length r1, .slice Rn dr.nxt.length r2] 27) := ⟨_, rfl⟩
        rw [← hWR] at XR HBa cr0 cr1 ⊢
        clear hWR
        go_at_call 31
        refine (implRun_any _ _ dr _ z p WR XR.out.dfa (by omega)).mono ?_
        rintro e wb ⟨rfl, hb⟩
        have XS := Lib.hid (XR.out.kept hb)
        have HBb := Lib.hid (HBa.out.trans (hb.mono HBa.out.size))
        clear hb cr0 cr1
        have HS := Lib.hid (specRun_any _ _ dr _ z p wb XS.out.dfa (by omega))
        obtain ⟨mm, hmm⟩ : ∃ mm, mm = runV dr z p.data.toList := ⟨_, rfl⟩
        obtain ⟨oo, hoo⟩ : ∃ oo, oo = runOk dr z p.data.toList := ⟨_, rfl⟩
        rw [← hmm, ← hoo] at HS ⊢
        have q1 : (mm == mm) = true := by simp
        have q2 : (oo == oo) = true := by simp
        clear hmm hoo
        obtain ⟨cr0, cr1⟩ := And.intro XS.out.c0 XS.out.c1
        go_wp2_with fail
        go_at_call 32
        refine HS.out.mono ?_
        rintro e wc ⟨rfl, hb⟩
        have HBc := Lib.hid (HBb.out.trans (hb.mono HBb.out.size))
        clear hb
        go_wp2_with fail
        go_ret
        exact ⟨rfl, HBc.out⟩
end Go.Proofs.Ythmfncklepkddaa
