/- Texts of one proof. -/
import Derived.ArgAppend
import Derived.RangeFuncBox
import Derived.RangeFuncNested
import Derived.RangeFuncBound
import Derived.RangeFuncCalls
import Derived.RangeFuncLeaves
import Derived.RangeFuncFrom
import Derived.OwnWalkIn
import Derived.TacticsInMore
import Derived.LoopNIn
import Derived.LoopIn
import Derived.Test.YtiijlpmdnokjfaaDoorCountsZPack19
set_option maxRecDepth 100000
set_option maxHeartbeats 20000000
namespace Go.Proofs.YtiijlpmdnokjfaaDoor
open Go.RowKit
theorem implRun_yes (va vn : Value) (d : Dx) (S : Nat -> Prop) (q0 : Int) (s : ByteArray) (w : World) (h : DfaV w S va vn d) (hv : validD d = true) (hq0 : 0 <= q0) (hq1 : q0 <= (d.acc.length : Int) - 1) (hs : isW s.data.toList = true) :
    Calls Tryd.prog 72 #[.agg #[va, vn], .int .i64 q0, .string s] w λ e w' => e = .returned (.tuple #[.int .i64 (((auD d).run q0.toNat (idxs s.data.toList) : Nat) : Int), .bool true]) /\ Below w.heap.size w w' := by
  obtain ⟨hw, hn, hnn, hl, ad, c, ad', c', rfl, rfl, hA, hT⟩ := h.au hv
  have hz : s.size <= 30 := by
    have h := hs
    unfold isW at h
    simp only [Bool.and_eq_true, decide_eq_true_eq] at h
    simpa using h.2
  have hall : s.data.toList.all isLetter = true := by
    unfold isW at hs
    simp only [Bool.and_eq_true] at hs
    exact hs.1
  obtain ⟨W0, hW0⟩ : ∃ W0, W0 = w.alloc (.cells #[.slice (some ad) d.acc.length c, .slice (some ad') d.acc.length c'] 27) := ⟨_, rfl⟩
  have HB0 : Hid (Below w.heap.size w W0) := Lib.hid (by rw [hW0]; exact (Below.refl _ _).alloc (Nat.le_refl _) _)
  have HX : Hid (Bx2 W0 w.heap.size (.slice (some ad) d.acc.length c) (.slice (some ad') d.acc.length c')) := Lib.hid (by
    have k := box2_kept (w := w) (w1 := W0) (a := .slice (some ad) d.acc.length c) (b := .slice (some ad') d.acc.length c') (t := 27) (by rw [hW0]; exact Below.refl _ _)
    exact ⟨k.2.1, k.2.2.1⟩)
  have HV := Lib.hid (λ (V : World) (hV : Below w.heap.size w V) => implValidD_any _ _ d S V (h.kept hV))
  rw [hv] at HV
  have HI := Lib.hid (λ w => implIsWord_any s w (by unfold maxLen; omega))
  rw [hs] at HI
  obtain ⟨n, hne⟩ : ∃ n, n = d.acc.length := ⟨_, rfl⟩
  obtain ⟨q, rfl⟩ : ∃ q : Nat, q0 = q := ⟨q0.toNat, by omega⟩
  have HT : Hid (∀ p, p < n -> ∃ ad2 c2, w.cell? (ad'.add p) = some (.slice (some ad2) 3 c2) /\ ∀ k, k < 3 -> w.cell? (ad2.add k) = some (.int .i64 (((auD d).T p k : Nat) : Int))) := Lib.hid (by rw [hne]; exact hT)
  have HW := Lib.hid hw
  have HALL := Lib.hid hall
  rw [<- hne] at hW0 HX HV ⊢ hnn hq1
  have hn40 : n <= 40 := by omega
  have HN := Lib.hid hnn
  clear h hv hs hl hA hT hw hn hall hne hnn
  go_enter Tryd.func72, Tryd.ntmps72
  go_wp2_with fail
  rw [<- hW0]
  go_at_call 29
  refine (HV.out W0 HB0.out).mono ?_
  rintro e w1 ⟨rfl, hb1⟩
  have HB1 := Lib.hid (HB0.out.trans (hb1.mono HB0.out.size))
  obtain ⟨c0, c1⟩ := HX.out.kept hb1
  have HX1 := Lib.hid (HX.out.kept hb1)
  clear hb1 hW0
  have t0 : decide ((q : Int) < 0) = false := by simp
  have t1 : decide (n <= q) = false := by simp; omega
  go_wp2_with (go_at_call 88; refine (HI.out _).mono ?_; rintro e w' ⟨rfl, rfl⟩)
  clear t0 t1
  go_loopw [8, 32] (λ y i wr => ∃ k p : Nat, i = .int .i64 k /\ y = .int .i64 (p : Int) /\ k <= s.size /\ p < n /\ Hid (p = (auD d).run q (idxs (s.data.toList.take k))) /\ Below w1.heap.size w1 wr) (λ _ i _ => s.size - (intOf i).toNat)
  case atStart => exact ⟨0, q, rfl, rfl, Nat.zero_le _, by omega, Lib.hid rfl, Below.refl _ _⟩
  case round =>
    obtain ⟨k, p, rfl, rfl, hk, hp, hpe, hb⟩ := hrel
    have HBr := Lib.hid hb
    clear hb c0 c1
    by_cases hlt : k < s.size
    . have hlet : isLetter s[k] = true := by
        have := List.all_eq_true.1 HALL.out s[k] (List.mem_iff_getElem.2 ⟨k, by simpa using hlt, rfl⟩)
        exact this
      obtain ⟨hl, h97, h99⟩ := letIdx_yes hlet
      obtain ⟨y, hy⟩ : ∃ y, y = letIdx s[k] := ⟨_, rfl⟩
      have hy0 : 0 <= y := by omega
      have hy3 : y < 3 := by omega
      obtain ⟨ad2, c2, hrow, hel⟩ := HT.out p hp
      have hel := hel y.toNat (by omega)
      obtain ⟨p2, hp2⟩ : ∃ p2, p2 = (auD d).T p y.toNat := ⟨_, rfl⟩
      rw [<- hp2] at hel
      have HP2 : Hid (p2 < n /\ p2 = (auD d).run q (idxs (s.data.toList.take (k + 1)))) := Lib.hid (by
        refine ⟨?_, ?_⟩
        . rw [hp2, <- HN.out]
          exact HW.out.2 p _ (by rw [HN.out]; exact hp) (by omega)
        . rw [List.take_succ_eq_append_getElem (by simpa using hlt)]
          unfold idxs
          rw [List.map_append, List.map_cons, List.map_nil, run_snoc]
          rw [hp2, hpe.out, hy]
          rfl)
      have HC := Lib.hid (λ V => implLet_any s[k] V)
      rw [<- hy] at HC
      have HK := Lib.hid (λ (V : World) (hV : Below wr.heap.size wr V) => (⟨((HX1.out.kept HBr.out).kept hV).2, (HB1.out.trans ((HBr.out.trans (hV.mono HBr.out.size)).mono HB1.out.size)).cell (cell_in hrow) |>.trans hrow, (HB1.out.trans ((HBr.out.trans (hV.mono HBr.out.size)).mono HB1.out.size)).cell (cell_in hel) |>.trans hel⟩ :
        V.cell? ⟨w.heap.size, 1, none⟩ = some (.slice (some ad') n c') /\ V.cell? (ad'.add p) = some (.slice (some ad2) 3 c2) /\ V.cell? (ad2.add y.toNat) = some (.int .i64 (p2 : Int))))
      have hbw : Below wr.heap.size wr wr := Below.refl _ _
      have s4 : (p : Int) < (n : Int) := by omega
      have s8 : (0 : Int) <= (p : Int) := by omega
      have s9 : (0 : Int) <= (k : Int) := by omega
      have s10 : (k : Int) < (s.size : Int) := by omega
      clear hrow hel hy hl hlet h97 h99 hp2
      go_wp2_with fail
      go_region_held3 (λ V => V.cell? ⟨w.heap.size, 1, none⟩ = some (.slice (some ad') n c') /\ V.cell? (ad'.add p) = some (.slice (some ad2) 3 c2) /\ V.cell? (ad2.add y.toNat) = some (.int .i64 (p2 : Int))) (first | exact HK.out _ hbw.drew | exact HK.out _ hbw) (first | (go_at_call 89; (with_reducible refine (HC.out _).mono ?_); rintro e w3 ⟨rfl, rfl⟩))
      have HB3 := Lib.hid (HBr.out.trans (hbw.drew.mono HBr.out.size))
      clear hbw
      go_wp2_with fail
      go_roundw
      case rel => exact ⟨k + 1, p2, by go_num, rfl, by omega, HP2.out.1, Lib.hid HP2.out.2, HB3.out⟩
      case measure => simp [intOf]; omega
    . obtain rfl : k = s.size := by omega
      have HR : Hid (p = (auD d).run q (idxs s.data.toList)) := Lib.hid (by rw [hpe.out, List.take_of_length_le (by simp)])
      go_wp2_with fail
      go_ret2
      exact ⟨congrArg (λ z : Nat => Ending.returned (.tuple #[.int .i64 (z : Int), .bool true])) HR.out, HB1.out.trans (HBr.out.mono HB1.out.size)⟩
theorem implRun_no (va vn : Value) (d : Dx) (S : Nat -> Prop) (q0 : Int) (s : ByteArray) (w : World) (h : DfaV w S va vn d) (hss : s.size <= 9223372036854775807) (hno : runOk d q0 s.data.toList = false) :
    Calls Tryd.prog 72 #[.agg #[va, vn], .int .i64 q0, .string s] w λ e w' => e = .returned (.tuple #[.int .i64 0, .bool false]) /\ Below w.heap.size w w' := by
  obtain ⟨⟨A, c, rfl⟩, A', c', rfl⟩ := h.shape
  have hln := h.1.1
  rw [bools_length] at hln
  obtain ⟨W0, hW0⟩ : ∃ W0, W0 = w.alloc (.cells #[.slice A d.acc.length c, .slice A' d.nxt.length c'] 27) := ⟨_, rfl⟩
  have HB0 : Hid (Below w.heap.size w W0) := Lib.hid (by rw [hW0]; exact (Below.refl _ _).alloc (Nat.le_refl _) _)
  have HX : Hid (Bx2 W0 w.heap.size (.slice A d.acc.length c) (.slice A' d.nxt.length c')) := Lib.hid (by
    have k := box2_kept (w := w) (w1 := W0) (a := .slice A d.acc.length c) (b := .slice A' d.nxt.length c') (t := 27) (by rw [hW0]; exact Below.refl _ _)
    exact ⟨k.2.1, k.2.2.1⟩)
  have HV := Lib.hid (λ (V : World) (hV : Below w.heap.size w V) => implValidD_any _ _ d S V (h.kept hV))
  have HI := Lib.hid (λ w => implIsWord_any s w (by unfold maxLen; omega))
  obtain ⟨n, hne⟩ : ∃ n, n = d.acc.length := ⟨_, rfl⟩
  obtain ⟨m, hme⟩ : ∃ m, m = d.nxt.length := ⟨_, rfl⟩
  rw [<- hne] at hW0 HX HV hln
  rw [<- hme] at hW0 HX HV
  rw [<- hne, <- hme]
  have hno' : (validD d && decide (0 <= q0) && decide (q0 <= (n : Int) - 1) && isW s.data.toList) = false := by rw [hne]; exact hno
  clear h hne hme hno
  cases hv : validD d with
  | false =>
    rw [hv] at HV
    clear hv hno'
    go_enter Tryd.func72, Tryd.ntmps72
    go_wp2_with fail
    rw [<- hW0]
    go_at_call 29
    refine (HV.out W0 HB0.out).mono ?_
    rintro e w1 ⟨rfl, hb1⟩
    have HB1 := Lib.hid (HB0.out.trans (hb1.mono HB0.out.size))
    clear hb1 hW0
    go_wp2_with fail
    go_ret2
    exact ⟨rfl, HB1.out⟩
  | true =>
    rw [hv] at HV hno'
    rw [Bool.true_and] at hno'
    clear hv
    by_cases hin : 0 <= q0 /\ q0 <= (n : Int) - 1
    . have hw : isW s.data.toList = false := by simpa [hin.1, hin.2] using hno'
      rw [hw] at HI
      have t0 : ¬ q0 < 0 := by omega
      have t1 : ¬ (n : Int) <= q0 := by omega
      clear hno' hw hin
      go_enter Tryd.func72, Tryd.ntmps72
      go_wp2_with fail
      rw [<- hW0]
      go_at_call 29
      refine (HV.out W0 HB0.out).mono ?_
      rintro e w1 ⟨rfl, hb1⟩
      have HB1 := Lib.hid (HB0.out.trans (hb1.mono HB0.out.size))
      obtain ⟨c0, c1⟩ := HX.out.kept hb1
      clear hb1 hW0
      go_wp2_with (go_at_call 88; refine (HI.out _).mono ?_; rintro e w' ⟨rfl, rfl⟩)
      go_ret2
      exact ⟨rfl, HB1.out⟩
    . by_cases t0 : q0 < 0
      all_goals
        have t1 : q0 < 0 \/ (n : Int) <= q0 := by omega
        try (replace t1 : (n : Int) <= q0 := by omega)
        clear hno' hin
        go_enter Tryd.func72, Tryd.ntmps72
        go_wp2_with fail
        rw [<- hW0]
        go_at_call 29
        refine (HV.out W0 HB0.out).mono ?_
        rintro e w1 ⟨rfl, hb1⟩
        have HB1 := Lib.hid (HB0.out.trans (hb1.mono HB0.out.size))
        obtain ⟨c0, c1⟩ := HX.out.kept hb1
        clear hb1 hW0
        go_wp2_with fail
        go_ret2
        exact ⟨rfl, HB1.out⟩
theorem implRun_any (va vn : Value) (d : Dx) (S : Nat -> Prop) (q0 : Int) (s : ByteArray) (w : World) (h : DfaV w S va vn d) (hss : s.size <= 9223372036854775807) :
    Calls Tryd.prog 72 #[.agg #[va, vn], .int .i64 q0, .string s] w λ e w' => e = .returned (.tuple #[.int .i64 (runV d q0 s.data.toList), .bool (runOk d q0 s.data.toList)]) /\ Below w.heap.size w w' := by
  unfold runV
  cases hok : runOk d q0 s.data.toList with
  | false => exact implRun_no va vn d S q0 s w h hss hok
  | true =>
    unfold runOk at hok
    simp only [Bool.and_eq_true, decide_eq_true_eq] at hok
    exact implRun_yes va vn d S q0 s w h hok.1.1.1 hok.1.1.2 hok.1.2 hok.2
theorem implAcc_any (va vn : Value) (d : Dx) (S : Nat -> Prop) (s : ByteArray) (w : World) (h : DfaV w S va vn d) (hss : s.size <= 9223372036854775807) :
    Calls Tryd.prog 46 #[.agg #[va, vn], .string s] w λ e w' => e = .returned (.bool (accR d s.data.toList)) /\ Below w.heap.size w w' := by
  have HR := Lib.hid (λ (V : World) (hV : Below w.heap.size w V) => implRun_any va vn d S 0 s V (h.kept hV) hss)
  obtain ⟨W0, hW0⟩ : ∃ W0, W0 = w.alloc (.cells #[va, vn] 27) := ⟨_, rfl⟩
  have HB0 : Hid (Below w.heap.size w W0) := Lib.hid (by rw [hW0]; exact (Below.refl _ _).alloc (Nat.le_refl _) _)
  have HX : Hid (Bx2 W0 w.heap.size va vn) := Lib.hid (by
    have k := box2_kept (w := w) (w1 := W0) (a := va) (b := vn) (t := 27) (by rw [hW0]; exact Below.refl _ _)
    exact ⟨k.2.1, k.2.2.1⟩)
  obtain ⟨⟨A, c, hva⟩, A', c', hvn⟩ := h.shape
  subst hva
  subst hvn
  cases hok : runOk d 0 s.data.toList with
  | false =>
    have HF : Hid (accR d s.data.toList = false) := Lib.hid (by simp [accR, hok])
    unfold runV at HR
    rw [hok] at HR
    clear h hok
    go_enter Tryd.func46, Tryd.ntmps46
    go_wp2_with fail
    rw [<- hW0]
    go_at_call 72
    refine (HR.out W0 HB0.out).mono ?_
    rintro e w1 ⟨rfl, hb1⟩
    have HB1 := Lib.hid (HB0.out.trans (hb1.mono HB0.out.size))
    clear hb1 hW0
    go_wp2_with fail
    go_ret
    exact ⟨congrArg (λ b : Bool => Ending.returned (.bool b)) HF.out.symm, HB1.out⟩
  | true =>
    have hok2 := hok
    unfold runOk at hok2
    simp only [Bool.and_eq_true, decide_eq_true_eq] at hok2
    obtain ⟨hw, hn, hnn, hl, ad, cc, ad', cc', e1, e2, hA, hT⟩ := h.au hok2.1.1.1
    cases e1
    clear e2
    have hall : s.data.toList.all isLetter = true := by
      have h := hok2.2
      unfold isW at h
      simp only [Bool.and_eq_true] at h
      exact h.1
    obtain ⟨p, hp⟩ : ∃ p, p = (auD d).run 0 (idxs s.data.toList) := ⟨_, rfl⟩
    have hpl : p < d.acc.length := by rw [hp, <- hnn]; exact Au.run_lt hw _ _ (idxs_W3 hall) hw.1
    have hc := hA p hpl
    obtain ⟨b, hb⟩ : ∃ b, b = (auD d).A p := ⟨_, rfl⟩
    rw [<- hb] at hc
    have HF : Hid (accR d s.data.toList = b) := Lib.hid (by rw [accR, hok, Bool.true_and, hb, hp])
    unfold runV at HR
    rw [hok] at HR
    simp only [if_true, Int.toNat_zero] at HR
    rw [<- hp] at HR
    obtain ⟨n, hne⟩ : ∃ n, n = d.acc.length := ⟨_, rfl⟩
    rw [<- hne] at hW0 HX HR hpl
    rw [<- hne]
    have s4 : (p : Int) < (n : Int) := by omega
    have HC := Lib.hid (λ (V : World) (hV : Below w.heap.size w V) => (hV.cell (cell_in hc)).trans hc)
    clear h hok hok2 hp hb hc hA hT hw hn hnn hl hall hne
    go_enter Tryd.func46, Tryd.ntmps46
    go_wp2_with fail
    rw [<- hW0]
    go_at_call 72
    refine (HR.out W0 HB0.out).mono ?_
    rintro e w1 ⟨rfl, hb1⟩
    have HB1 := Lib.hid (HB0.out.trans (hb1.mono HB0.out.size))
    obtain ⟨c0, c1⟩ := HX.out.kept hb1
    have hcv := HC.out w1 HB1.out
    clear hb1 hW0
    go_wp2_with fail
    go_ret
    exact ⟨congrArg (λ b : Bool => Ending.returned (.bool b)) HF.out.symm, HB1.out⟩
end Go.Proofs.YtiijlpmdnokjfaaDoor
namespace Go.Proofs.YtiijlpmdnokjfaaDoor
theorem bump_carry (b : UInt8) (r : List UInt8) (h : b.toNat < 99) : ∀ j, bump (List.replicate j 99 ++ b :: r) = some (List.replicate j 97 ++ UInt8.ofNat (b.toNat + 1) :: r)
  | 0 => by simp [bump, h]
  | j + 1 => by
    rw [List.replicate_succ, List.cons_append, bump, if_neg (by decide), bump_carry b r h j]
    simp [List.replicate_succ]
theorem bump_all : ∀ j, bump (List.replicate j 99) = none
  | 0 => rfl
  | j + 1 => by
    rw [List.replicate_succ, bump, if_neg (by decide), bump_all j]
    rfl
theorem nextW_step {l p : List UInt8} {b : UInt8} {j : Nat} (hw : isW l = true) (hl : l = p ++ b :: List.replicate j 99) (h : b.toNat < 99) : nextW l = p ++ UInt8.ofNat (b.toNat + 1) :: List.replicate j 97 := by
  have hr : l.reverse = List.replicate j 99 ++ b :: p.reverse := by rw [hl]; simp
  unfold nextW
  rw [if_pos hw, hr, bump_carry b _ h j]
  simp
theorem nextW_wrap {l : List UInt8} {n : Nat} (hw : isW l = true) (hl : l = List.replicate n 99) : nextW l = if n + 1 <= 30 then List.replicate (n + 1) 97 else [] := by
  have hr : l.reverse = List.replicate n 99 := by rw [hl]; simp
  unfold nextW
  rw [if_pos hw, hr, bump_all n]
  simp [hl]
theorem nextW_no {l : List UInt8} (hw : isW l = false) : nextW l = [] := by
  unfold nextW
  rw [if_neg (by rw [hw]; decide)]
theorem isW_len2 {l : List UInt8} (hw : isW l = true) : l.length <= 30 := by
  simp only [isW, Bool.and_eq_true, decide_eq_true_eq] at hw
  exact hw.2
theorem isW_at {l : List UInt8} {k : Nat} (hw : isW l = true) (hk : k < l.length) : isLetter l[k] = true := by
  simp only [isW, Bool.and_eq_true, List.all_eq_true] at hw
  exact hw.1 _ (List.getElem_mem hk)
def Carry (l : List UInt8) (m : Nat) : Prop := m <= l.length /\ l.drop m = List.replicate (l.length - m) 99
theorem Carry.start (l : List UInt8) : Carry l l.length := ⟨Nat.le_refl _, by simp⟩
theorem Carry.step {l : List UInt8} {k : Nat} (h : Carry l (k + 1)) (hk : k < l.length) (hb : l[k] = 99) : Carry l k := by
  refine ⟨by omega, ?_⟩
  rw [List.drop_eq_getElem_cons hk, h.2, hb, show l.length - k = (l.length - (k + 1)) + 1 by omega, List.replicate_succ]
theorem Carry.next {l : List UInt8} {k : Nat} (h : Carry l (k + 1)) (hk : k < l.length) (hw : isW l = true) (hb : l[k].toNat < 99) : nextW l = l.take k ++ UInt8.ofNat (l[k].toNat + 1) :: List.replicate (l.length - (k + 1)) 97 := by
  refine nextW_step hw ?_ hb
  rw [<- h.2, <- List.drop_eq_getElem_cons hk, List.take_append_drop]
theorem Carry.wrap {l : List UInt8} (h : Carry l 0) (hw : isW l = true) : nextW l = if l.length + 1 <= 30 then List.replicate (l.length + 1) 97 else [] := by
  refine nextW_wrap hw ?_
  have := h.2
  simpa using this
end Go.Proofs.YtiijlpmdnokjfaaDoor
namespace Go.Proofs.YtiijlpmdnokjfaaDoor
open Go.RowKit
theorem bytes_ext {a b : ByteArray} (h : a.data.toList = b.data.toList) : a = b := ByteArray.ext (Array.toList_inj.1 h)
theorem str_ret {a b : ByteArray} (h : a.data.toList = b.data.toList) : Ending.returned (.string a) = Ending.returned (.string b) := by rw [bytes_ext h]
theorem letter_cases {b : UInt8} (h : isLetter b = true) : b = 97 \/ b = 98 \/ b = 99 := by
  obtain ⟨_, h1, h2⟩ := letIdx_yes h
  have e : b.toNat = 97 \/ b.toNat = 98 \/ b.toNat = 99 := by omega
  rcases e with e | e | e
  . exact .inl (UInt8.toNat_inj.1 e)
  . exact .inr (.inl (UInt8.toNat_inj.1 e))
  . exact .inr (.inr (UInt8.toNat_inj.1 e))
def allA (n : Nat) : ByteArray := ⟨(List.replicate n 97).toArray⟩
theorem allA_list (n : Nat) : (allA n).data.toList = List.replicate n 97 := by simp [allA]
def BRow (w : World) (g m : Nat) (L : List UInt8) : Prop :=
  g < w.heap.size /\ L.length <= m /\ (∀ j (h : j < L.length), w.cell? ⟨g, j, none⟩ = some (.int .u8 (L[j].toNat : Int))) /\ ∀ j, j < m -> (w.cell? ⟨g, j, none⟩).isSome = true /\ w.frozen? ⟨g, j, none⟩ = false
theorem BRow.below {w w' : World} {g m : Nat} {L : List UInt8} (h : BRow w g m L) (hb : Below w.heap.size w w') : BRow w' g m L :=
  ⟨Nat.lt_of_lt_of_le h.1 hb.size, h.2.1, λ j hj => (hb.cell (p := ⟨g, j, none⟩) h.1).trans (h.2.2.1 j hj), λ j hj => ⟨by rw [hb.cell (p := ⟨g, j, none⟩) h.1]; exact (h.2.2.2 j hj).1, (hb.frozen (p := ⟨g, j, none⟩) h.1).trans (h.2.2.2 j hj).2⟩⟩
theorem BRow.set {w : World} {g m : Nat} {L : List UInt8} (h : BRow w g m L) (k : Nat) (hk : k < L.length) (b : UInt8) : BRow (w.setCell ⟨g, k, none⟩ (.int .u8 (b.toNat : Int))) g m (L.set k b) := by
  refine ⟨by simpa [World.setCell] using h.1, by simpa using h.2.1, λ j hj => ?_, λ j hj => ⟨?_, by rw [World.frozen?_setCell]; exact (h.2.2.2 j hj).2⟩⟩
  . by_cases e : k = j
    . subst e
      rw [World.cell?_setCell_same _ _ _ (h.2.2.1 k hk), List.getElem_set_self]
    . rw [World.cell?_setCell_other _ _ _ _ (by intro e'; injection e' with _ e2; exact e e2), List.getElem_set_ne e]
      exact h.2.2.1 j (by simpa using hj)
  . by_cases e : k = j
    . subst e
      rw [World.cell?_setCell_same _ _ _ (h.2.2.1 k hk)]
      rfl
    . rw [World.cell?_setCell_other _ _ _ _ (by intro e'; injection e' with _ e2; exact e e2)]
      exact (h.2.2.2 j hj).1
theorem BRow.push {w : World} {g m : Nat} {L : List UInt8} (h : BRow w g m L) (b : UInt8) (hm : L.length + 1 <= m) : BRow (w.setCells g L.length [.int .u8 (b.toNat : Int)]) g m (L ++ [b]) := by
  have hs := (h.2.2.2 L.length (by omega)).1
  obtain ⟨u, hu⟩ := Option.isSome_iff_exists.1 hs
  refine ⟨by simpa [World.setCells, World.setCell] using h.1, by simpa using hm, λ j hj => ?_, λ j hj => ⟨?_, by simp only [World.setCells]; rw [World.frozen?_setCell]; exact (h.2.2.2 j hj).2⟩⟩
  . simp only [World.setCells]
    by_cases e : L.length = j
    . subst e
      rw [World.cell?_setCell_same _ _ _ hu]
      simp
    . rw [World.cell?_setCell_other _ _ _ _ (by intro e'; injection e' with _ e2; exact e e2)]
      have hj' : j < L.length := by simp at hj; omega
      rw [List.getElem_append_left hj']
      exact h.2.2.1 j hj'
  . simp only [World.setCells]
    by_cases e : L.length = j
    . subst e
      rw [World.cell?_setCell_same _ _ _ hu]
      rfl
    . rw [World.cell?_setCell_other _ _ _ _ (by intro e'; injection e' with _ e2; exact e e2)]
      exact (h.2.2.2 j hj).1
theorem bytesRow_at (s : ByteArray) (m j : Nat) (h : j < s.data.toList.length) : (bytesRow s m)[j]? = some (.int .u8 ((s.data.toList[j]).toNat : Int)) := by
  have hj : j < s.data.size := by simpa using h
  unfold bytesRow
  rw [Array.getElem?_append_left (by simpa using hj)]
  simp
  exact ⟨_, Array.getElem?_eq_getElem hj, rfl⟩
theorem bytesRow_size (s : ByteArray) (m : Nat) (h : s.size <= m) : (bytesRow s m).size = m := by
  have : s.data.size = s.size := rfl
  simp [bytesRow]
  omega
theorem conv_row (s : ByteArray) (w : World) (hs : s.size <= maxLen) : ∃ m w1, (convert 9 22 (.string s)).run Tryd.prog w = .ok (.slice (some ⟨w.heap.size, 0, none⟩) s.size m) w1 /\
    BRow w1 w.heap.size m s.data.toList /\ Below w.heap.size w w1 /\ m <= maxLen := by
  have hm := grownCap_ge w s.size 0 5
  have hb : Below w.heap.size w (w.drew.alloc (.cells (bytesRow s (grownCap w s.size 0 5)) 5 ((bytesRow s (grownCap w s.size 0 5)).size, (bytesRow s (grownCap w s.size 0 5)).size + 1))) :=
    (Below.refl _ w).drew.alloc (Nat.le_refl _) _
  have hnew := heap_alloc_new w.drew (.cells (bytesRow s (grownCap w s.size 0 5)) 5 ((bytesRow s (grownCap w s.size 0 5)).size, (bytesRow s (grownCap w s.size 0 5)).size + 1))
  refine ⟨_, _, run_bytes_of_string (P := Tryd.prog) w 9 22 5 s Tryd.underlying9 Tryd.underlying22 Tryd.underlying5, ⟨?_, ?_, λ j hj => ?_, λ j hj => ⟨?_, ?_⟩⟩, hb, grownCap_le_maxLen w s.size 0 5 hs⟩
  . show w.heap.size < (w.heap.push _).size
    simp
  . simpa using hm
  . exact (cell_of_row _ w.heap.size j _ _ _ hnew).trans (bytesRow_at s _ j hj)
  . have hj' : j < (bytesRow s (grownCap w s.size 0 5)).size := by rw [bytesRow_size s _ hm]; exact hj
    rw [show World.cell? _ ⟨w.heap.size, j, none⟩ = _ from cell_of_row _ w.heap.size j _ _ _ hnew, Array.getElem?_eq_getElem hj']
    rfl
  . have hj' : j < (bytesRow s (grownCap w s.size 0 5)).size := by rw [bytesRow_size s _ hm]; exact hj
    unfold World.frozen?
    rw [show (w.drew.alloc _).heap[(⟨w.heap.size, j, none⟩ : Addr).block]? = _ from hnew]
    simp
    intro h
    exact absurd h (by omega)
theorem conv_back (w : World) (g m c : Nat) (L : List UInt8) (h : BRow w g m L) : (convert 22 9 (.slice (some ⟨g, 0, none⟩) L.length c)).run Tryd.prog w = .ok (.string ⟨L.toArray⟩) w :=
  run_convert_bytes_back (P := Tryd.prog) w 22 9 5 ⟨g, 0, none⟩ c L Tryd.underlying22 Tryd.underlying5 Tryd.underlying9 (λ j hj => by rw [Addr.add_lit, Nat.zero_add]; exact h.2.2.1 j hj)
theorem byteInfo : (Tryd.prog.info? 5).map (λ i => (i.zero, i.size, i.bytes)) = some (some (.int .u8 0), 1, 1) := by kernel_rfl
theorem own_byte {w : World} {B g c n : Nat} {L : List UInt8} (hl : L.length = n) (h : w.ownsRow B 5 1 (.slice (some ⟨g, 0, none⟩) n c) n (L.map λ b => .int .u8 (b.toNat : Int))) :
    (convert 22 9 (.slice (some ⟨g, 0, none⟩) n c)).run Tryd.prog w = .ok (.string ⟨L.toArray⟩) w := by
  subst hl
  exact run_convert_bytes_back (P := Tryd.prog) w 22 9 5 ⟨g, 0, none⟩ c L Tryd.underlying22 Tryd.underlying5 Tryd.underlying9 (λ j hj => by
    rw [Addr.add_lit, Nat.zero_add, h.cellAt j (by omega)]
    simp [hj])
theorem implIsWord_yes (s : ByteArray) (w : World) (hs : s.size <= maxLen) (h : isW s.data.toList = true) : Calls Tryd.prog 88 #[.string s] w λ e w' => e = .returned (.bool true) /\ w = w' :=
  (implIsWord_any s w hs).mono λ _ _ ⟨he, hw⟩ => ⟨by rw [he, h], hw⟩
theorem implIsWord_no (s : ByteArray) (w : World) (hs : s.size <= maxLen) (h : isW s.data.toList = false) : Calls Tryd.prog 88 #[.string s] w λ e w' => e = .returned (.bool false) /\ w = w' :=
  (implIsWord_any s w hs).mono λ _ _ ⟨he, hw⟩ => ⟨by rw [he, h], hw⟩
theorem implLet_at (b : UInt8) (d : Int) (w : World) (h : letIdx b = d) : Calls Tryd.prog 89 #[.int .u8 b.toNat] w λ e w' => e = .returned (.int .i64 d) /\ w = w' :=
  (implLet_any b w).mono λ _ _ ⟨he, hw⟩ => ⟨by rw [he, h], hw⟩
def carried (l : List UInt8) (m : Nat) : List UInt8 := l.take m ++ List.replicate (l.length - m) 97
theorem carried_start (l : List UInt8) : carried l l.length = l := by simp [carried]
theorem carried_length (l : List UInt8) (m : Nat) (h : m <= l.length) : (carried l m).length = l.length := by simp [carried]; omega
theorem carried_at (l : List UInt8) (k : Nat) (h : k < l.length) : ∀ h', (carried l (k + 1))[k]'h' = l[k] := by
  intro h'
  simp only [carried]
  rw [List.getElem_append_left (by simp; omega)]
  simp
theorem carried_set (l : List UInt8) (k : Nat) (h : k < l.length) (b : UInt8) : (carried l (k + 1)).set k b = l.take k ++ b :: List.replicate (l.length - (k + 1)) 97 := by
  have e : l.take (k + 1) = l.take k ++ [l[k]] := List.take_succ_eq_append_getElem h
  have hl : (l.take k).length = k := by simp; omega
  unfold carried
  rw [e, List.append_assoc, List.set_append_right _ _ (by omega), hl, Nat.sub_self]
  rfl
theorem carried_step (l : List UInt8) (k : Nat) (h : k < l.length) : (carried l (k + 1)).set k 97 = carried l k := by
  rw [carried_set l k h]
  unfold carried
  rw [show l.length - k = (l.length - (k + 1)) + 1 by omega, List.replicate_succ]
theorem carried_zero (l : List UInt8) : carried l 0 = List.replicate l.length 97 := by simp [carried]
def NextPost (l : List UInt8) (w : World) (e : Ending) (w' : World) : Prop := e = .returned (.string ⟨l.toArray⟩) /\ Below w.heap.size w w'
theorem next_ret {l : List UInt8} {a : ByteArray} {w w' : World} (h : a.data.toList = l) (hb : Below w.heap.size w w') : NextPost l w (.returned (.string a)) w' :=
  ⟨str_ret (by rw [h]), hb⟩
theorem put_letter {w wr : World} {g m k n : Nat} {l : List UInt8} (hn : l.length = n) (hg : w.heap.size <= g) (hrow : BRow wr g m (carried l (k + 1))) (hb : Below w.heap.size w wr) (hk : k < n) (b : UInt8) :
    BRow (wr.setCell ⟨g, k, none⟩ (.int .u8 (b.toNat : Int))) g m (l.take k ++ b :: List.replicate (l.length - (k + 1)) 97) /\ Below w.heap.size w (wr.setCell ⟨g, k, none⟩ (.int .u8 (b.toNat : Int))) := by
  subst hn
  have h1 := hrow.set k (by rw [carried_length l _ (by omega)]; exact hk) b
  rw [carried_set l k hk] at h1
  exact ⟨h1, hb.setCell (p := ⟨g, k, none⟩) hg _⟩
theorem put_back {w wr : World} {g m k n : Nat} {l : List UInt8} (hn : l.length = n) (hg : w.heap.size <= g) (hrow : BRow wr g m (carried l (k + 1))) (hb : Below w.heap.size w wr) (hk : k < n) (b : UInt8) :
    (convert 22 9 (.slice (some ⟨g, 0, none⟩) n m)).run Tryd.prog (wr.setCell ⟨g, k, none⟩ (.int .u8 (b.toNat : Int))) = .ok (.string ⟨(l.take k ++ b :: List.replicate (l.length - (k + 1)) 97).toArray⟩) (wr.setCell ⟨g, k, none⟩ (.int .u8 (b.toNat : Int))) := by
  have h := conv_back _ g m m _ (put_letter hn hg hrow hb hk b).1
  subst hn
  have e : (l.take k ++ b :: List.replicate (l.length - (k + 1)) 97).length = l.length := by simp; omega
  rw [e] at h
  exact h
theorem push_room {w wr : World} {g m n : Nat} (hg : w.heap.size <= g) (hrow : BRow wr g m (List.replicate n 97)) (hb : Below w.heap.size w wr) (hm : n + 1 <= m) (o : Obj) :
    (convert 22 9 (.slice (some ⟨g, 0, none⟩) (n + 1) m)).run Tryd.prog ((wr.alloc o).setCells g n [.int .u8 97]) = .ok (.string (allA (n + 1))) ((wr.alloc o).setCells g n [.int .u8 97]) /\
      Below w.heap.size w ((wr.alloc o).setCells g n [.int .u8 97]) := by
  have h1 := (hrow.below ((Below.refl _ wr).alloc (Nat.le_refl _) o)).push 97 (by simpa using hm)
  rw [List.length_replicate, <- List.replicate_succ'] at h1
  have h := conv_back _ g m m _ h1
  rw [List.length_replicate] at h
  exact ⟨h, (hb.alloc hb.size o).setCell (p := ⟨g, n, none⟩) hg _⟩
theorem push_grown {w wr w1 : World} {g' c n : Nat} (o : Obj) (hb : Below w.heap.size w wr)
    (hown : w1.ownsRow (wr.heap.size + 1) 5 1 (.slice (some ⟨g', 0, none⟩) (n + 1) c) (n + 1) (List.replicate n (Value.int .u8 97) ++ [.int .u8 97])) (hgr : (wr.alloc o).grownBy w1 none) :
    (convert 22 9 (.slice (some ⟨g', 0, none⟩) (n + 1) c)).run Tryd.prog w1 = .ok (.string (allA (n + 1))) w1 /\ Below w.heap.size w w1 := by
  have e : List.replicate n (Value.int .u8 97) ++ [.int .u8 97] = (List.replicate (n + 1) 97).map λ b : UInt8 => Value.int .u8 (b.toNat : Int) := by
    rw [List.replicate_succ', List.map_append, List.map_replicate]
    rfl
  rw [e] at hown
  exact ⟨own_byte (by simp) hown, (hb.alloc hb.size o).grown hgr (by simp; exact Nat.le_succ_of_le hb.size) (λ k e => by cases e)⟩
theorem push_olds {wr : World} {g m n : Nat} (hrow : BRow wr g m (List.replicate n 97)) (o : Obj) : ∀ j u, ((List.replicate n 97).map λ b : UInt8 => Value.int .u8 (b.toNat : Int))[j]? = some u -> (wr.alloc o).cell? ⟨g, 0 + j, none⟩ = some u := by
  intro j u hj
  have h1 := hrow.below ((Below.refl _ wr).alloc (Nat.le_refl _) o)
  have hj' : j < n := by have := (List.getElem?_eq_some_iff.1 hj).1; simpa using this
  rw [Nat.zero_add, h1.2.2.1 j (by simpa using hj'), <- hj]
  simp [hj']
theorem push_spare {wr : World} {g m n : Nat} (hrow : BRow wr g m (List.replicate n 97)) (o : Obj) (hm : n + 1 <= m) : ∀ j, j < 1 -> ((wr.alloc o).cell? ⟨g, 0 + n * 1 + j, none⟩).isSome = true /\ (wr.alloc o).frozen? ⟨g, 0 + n * 1 + j, none⟩ = false := by
  intro j hj
  have h1 := (hrow.below ((Below.refl _ wr).alloc (Nat.le_refl _) o)).2.2.2 n (by omega)
  have hj0 : j = 0 := by omega
  subst hj0
  rw [Nat.zero_add, Nat.mul_one, Nat.add_zero]
  exact h1
theorem push_new (wr : World) (t : TypeId) : ∀ j u, [Value.int .u8 (97 : UInt8).toNat][j]? = some u -> (wr.alloc (.cells #[.int .u8 (97 : UInt8).toNat] t)).cell? ((⟨wr.heap.size, 0, none⟩ : Addr).add j) = some u := by
  intro j u hj
  match j, hj with
  | 0, hj => simp at hj; subst hj; simp [Addr.add]
theorem implNext_any (s : ByteArray) (w : World) (hs : s.size <= maxLen) :
    Calls Tryd.prog 106 #[.string s] w (NextPost (nextW s.data.toList) w) := by
  cases hw : isW s.data.toList with
  | false =>
    have HN := Lib.hid (nextW_no hw)
    have HC := Lib.hid (λ w => implIsWord_no s w hs hw)
    clear hs hw
    go_enter Tryd.func106, Tryd.ntmps106
    go_wp2_with (go_at_call 88; refine (HC.out _).mono ?_; rintro e w' ⟨rfl, rfl⟩)
    go_ret
    exact next_ret (by rw [HN.out]) (Below.refl _ _)
  | true =>
    have HC := Lib.hid (λ w => implIsWord_yes s w hs hw)
    have hlen := isW_len2 hw
    have hsz : s.data.toList.length = s.size := by simp
    rw [hsz] at hlen
    have HSZ := Lib.hid hsz
    have HW := Lib.hid hw
    obtain ⟨m, w1, hcv, hrow, hb, hmm⟩ := conv_row s w hs
    obtain ⟨g, hg⟩ : ∃ g, g = w.heap.size := ⟨_, rfl⟩
    rw [<- hg] at hcv hrow
    have hgl : w.heap.size <= g := by omega
    have HROW := Lib.hid hrow
    have HB := Lib.hid hb
    obtain ⟨i0, hi, hz0, hz1, hz2⟩ := info_parts byteInfo
    clear hsz hw hs hrow hb hg
    go_enter Tryd.func106, Tryd.ntmps106
    go_wp2_with (go_at_call 88; refine (HC.out _).mono ?_; rintro e w' ⟨rfl, rfl⟩)
    clear hcv
    go_loopw [4] (λ i wr => ∃ k : Nat, i = .int .i64 ((k : Int) - 1) /\ k <= s.size /\ Carry s.data.toList k /\ BRow wr g m (carried s.data.toList k) /\ Below w.heap.size w wr) (λ i _ => (intOf i + 1).toNat)
    case atStart => exact ⟨s.size, rfl, Nat.le_refl _, by rw [<- HSZ.out]; exact Carry.start _, by rw [<- HSZ.out, carried_start]; exact HROW.out, HB.out⟩
    case round =>
      obtain ⟨m', hi', hm, hcar, hrow, hb⟩ := hrel
      have HR := Lib.hid hcar
      have HK := Lib.hid hrow
      have HBB := Lib.hid hb
      clear hcar hrow hb
      cases m' with
      | zero =>
        have hi2 : _ = Value.int .i64 (-1) := hi'
        clear hi'
        subst hi2
        have HX := Lib.hid (HR.out.wrap HW.out)
        have hrow0 := HK.out
        rw [carried_zero, HSZ.out] at hrow0
        have HK0 := Lib.hid hrow0
        clear hrow0
        by_cases h30 : s.size = 30
        . have e1 : ((s.size : Int) == 30) = true := by simp [h30]
          have HN := Lib.hid (HX.out.trans (if_neg (by rw [HSZ.out]; omega)))
          clear h30
          go_wp2
          go_ret
          exact next_ret (by rw [HN.out]) HBB.out
        . have e1 : ((s.size : Int) == 30) = false := by simp; omega
          have HN := Lib.hid (HX.out.trans (if_pos (by rw [HSZ.out]; omega)))
          clear h30
          have HA := Lib.hid (λ hm => push_room (w := w) hgl HK0.out HBB.out hm)
          have HG := Lib.hid (λ o (w1 : World) g' c hown hgr => push_grown (w := w) (wr := wr) (w1 := w1) (g' := g') (c := c) (n := s.size) o HBB.out hown hgr)
          have HO := Lib.hid (λ o => push_olds HK0.out o)
          have HS := Lib.hid (λ o hm => push_spare HK0.out o hm)
          go_wp2_with (at_builtin; refine wpList_append_arg _ rfl (.tmp 40) (.tmp 42) 22 rfl 5 i0 (.int .u8 0) 1 1 Tryd.underlying22 hi hz0 hz1 hz2 rfl (by decide) g 0 s.size m ((List.replicate s.size 97).map λ b : UInt8 => Value.int .u8 (b.toNat : Int)) rfl (by simp) (HO.out _) ⟨wr.heap.size, 0, none⟩ 1 1 [.int .u8 (97 : UInt8).toNat] rfl rfl (push_new wr _) (by simp [Value.oneCell']) (HS.out _) (by unfold maxLen; omega) (by omega) ?_ ?_)
          . intro hm1
            obtain ⟨hbk, hbb⟩ := HA.out hm1 (.cells #[.int .u8 (((ByteArray.mk #[97, 98, 99])[0]'(by decide)).toNat : Int)] 5)
            have HBK := Lib.hid hbb
            clear hbb
            go_wp2
            go_ret
            exact next_ret (by rw [HN.out, HSZ.out, allA_list]) HBK.out
          . intro hm1 v' w2 hown hgr
            obtain ⟨g', c', rfl⟩ := ownsRow_succ hown
            obtain ⟨hbk, hbb⟩ := HG.out (.cells #[.int .u8 97] 5) w2 g' c' hown hgr
            have HBK := Lib.hid hbb
            clear hbb hown hgr
            go_wp2
            go_ret
            exact next_ret (by rw [HN.out, HSZ.out, allA_list]) HBK.out
      | succ k =>
        have hi2 : _ = Value.int .i64 (k : Int) := hi'.trans (congrArg (Value.int .i64) (by omega))
        clear hi'
        subst hi2
        have hk : k < s.size := by omega
        have hb := isW_at HW.out (by rw [HSZ.out]; exact hk : k < s.data.toList.length)
        obtain ⟨b, hbe⟩ : ∃ b, b = s.data.toList[k]'(by rw [HSZ.out]; exact hk) := ⟨_, rfl⟩
        rw [<- hbe] at hb
        have hkl : k < s.data.toList.length := by rw [HSZ.out]; exact hk
        have hcell : wr.cell? ⟨g, k, none⟩ = some (.int .u8 (b.toNat : Int)) := by
          rw [HK.out.2.2.1 k (by rw [carried_length _ _ (by omega)]; exact hkl), carried_at _ k hkl, <- hbe]
        have hfr := (HK.out.2.2.2 k (by have := HK.out.2.1; rw [carried_length _ _ (by omega)] at this; omega)).2
        have HP := Lib.hid (put_letter HSZ.out hgl HK.out HBB.out hk)
        rcases letter_cases hb with h | h | h
        . subst h
          have HN := Lib.hid (HR.out.next hkl HW.out (by rw [<- hbe]; decide))
          rw [<- hbe] at HN
          have hbk : (convert 22 9 (.slice (some ⟨g, 0, none⟩) s.size m)).run Tryd.prog (wr.setCell ⟨g, k, none⟩ (.int .u8 (((ByteArray.mk #[97, 98, 99])[1]'(by decide)).toNat : Int))) = _ := put_back HSZ.out hgl HK.out HBB.out hk _
          clear hbe hb hkl
          go_wp2_with (go_at_call 89; refine (implLet_at 97 0 _ rfl).mono ?_; rintro e w' ⟨rfl, rfl⟩)
          go_ret
          exact next_ret (by rw [HN.out]; rfl) (HP.out _).2
        . subst h
          have HN := Lib.hid (HR.out.next hkl HW.out (by rw [<- hbe]; decide))
          rw [<- hbe] at HN
          have hbk : (convert 22 9 (.slice (some ⟨g, 0, none⟩) s.size m)).run Tryd.prog (wr.setCell ⟨g, k, none⟩ (.int .u8 (((ByteArray.mk #[97, 98, 99])[2]'(by decide)).toNat : Int))) = _ := put_back HSZ.out hgl HK.out HBB.out hk _
          clear hbe hb hkl
          go_wp2_with (go_at_call 89; refine (implLet_at 98 1 _ rfl).mono ?_; rintro e w' ⟨rfl, rfl⟩)
          go_ret
          exact next_ret (by rw [HN.out]; rfl) (HP.out _).2
        . subst h
          have HN := Lib.hid (HR.out.step hkl hbe.symm)
          have HS := Lib.hid (carried_step s.data.toList k hkl)
          have HQ := Lib.hid (carried_set s.data.toList k hkl 97)
          clear hbe hb hkl
          go_wp2_with (go_at_call 89; refine (implLet_at 99 2 _ rfl).mono ?_; rintro e w' ⟨rfl, rfl⟩)
          go_roundw
          case rel => exact ⟨k, rfl, by omega, HN.out, by rw [<- HS.out, HQ.out]; exact (HP.out 97).1, (HP.out 97).2⟩
          case measure => simp [intOf]
end Go.Proofs.YtiijlpmdnokjfaaDoor
namespace Go.Proofs.YtiijlpmdnokjfaaDoor
open Go.RowKit
def Rounds (n : Nat) (P : Program) (gf : Nat) (lb : Array Value) (args : Nat -> Array Value) (m n₀ : Nat) (w : World) : Prop :=
  ∀ (l : Nat) (J : Nat -> World -> Prop) (Jx : World -> Prop) (W : World), Below w.heap.size w W -> AbidesFrom W.heap.size J ->
    (∀ k W1, k < m -> J k W1 -> YieldAt Fence.wide (n - 1) P l (args k) W1 λ e W' => e = .returned (.bool true) /\ J (k + 1) W' /\ Below n₀ W1 W') ->
    (∀ W1, J m W1 -> YieldAt Fence.wide (n - 1) P l (args m) W1 λ e W' => e = .returned (.bool false) /\ Jx W') ->
    J 0 W -> CallsIn Fence.wide n P gf (#[.func (.yield l) #[] #[]] ++ lb) W λ e W' => (∃ v, e = .returned v) /\ Jx W'
section law
variable {P : Program} {n : Nat}
def recOf (fn B : Nat) (tmps : Array Value) (ps : Array Tmp) (assign body : Code) (st : LoopState) (pe : Option Code) : Loop :=
  { state := st, pending := pe, fn := fn, tmps := tmps, params := ps, assign := assign, body := body, defers := B }
def Rec (B : Nat) (r : Loop) (W : World) : Prop := W.heap[B + 1]? = some (.loop r) /\ W.heap[B]? = some (.deferred (some []))
theorem Rec.turn {B : Nat} {r : Loop} {W : World} (h : Rec B r W) (r' : Loop) : Rec B r' (W.putObj (B + 1) (.loop r')) :=
  ⟨World.putObj_heap_same (Array.getElem?_eq_some_iff.1 h.1).1, (World.putObj_heap_other (by omega)).trans h.2⟩
theorem Rec.keep {B : Nat} {r : Loop} {W W' : World} (h : Rec B r W) (hk : KeepsOthers W W') : Rec B r W' := ⟨hk.same _ _ h.1 rfl, hk.same _ _ h.2 rfl⟩
theorem Rec.below {B n₀ : Nat} {r : Loop} {W : World} (h : Rec B r W) (hB : n₀ <= B) (r' : Loop) : Below n₀ W (W.putObj (B + 1) (.loop r')) := by
  have hlt := (Array.getElem?_eq_some_iff.1 h.1).1
  exact (Below.refl n₀ W).grown (grownBy_putObj' W (B + 1) _) (by omega) (λ k e => by cases e; omega)
theorem wp_rounds {g : Operand} {ps : Array Tmp} {assign body : Code} {Q : Exit -> Act -> World -> Prop} {a : Act} {w : World} (h1 : 1 <= n) {gf : Nat} {lb : Array Value}
    (hg : a.eval g = .func (.func gf) #[] lb) (eg : ∀ args w, (callFunc gf args).run P w = .ok (.enter gf args) w) {args : Nat -> Array Value} {m n₀ : Nat} (hn₀ : n₀ <= w.heap.size)
    (hseq : Rounds (n - 1) P gf lb args m n₀ w) (hps : ∀ k, (args k).size = ps.size) (id : Nat)
    (I : Nat -> World -> Prop) (Ix : World -> Prop) (hI : OwnFrom w.heap.size I) (hIx : OwnFrom w.heap.size (λ (_ : Unit) => Ix)) (h0 : I 0 w) (a₁ : Nat -> Act)
    (hassign : ∀ (l k : Nat) (W : World) (K : Act -> World -> Prop), K (a₁ k) W -> assign.wpIn (Fence.wide.inRound l) (n - 1 - 1) P (Exit.then K (λ _ _ _ => False)) { tmps := (ps.zip (args k)).foldl (λ t (p, v) => t.setIfInBounds p v) a.tmps, defers := [] } W)
    (hbody : ∀ (l k : Nat) (W : World), k < m -> I k W -> body.wpIn (Fence.wide.inRound l) (n - 1 - 1) P (λ e _ W' => e = .normal /\ KeepsOthers W W' /\ Below n₀ W W' /\ I (k + 1) W') (a₁ k) W)
    (hlast : ∀ (l : Nat) (W : World), I m W -> body.wpIn (Fence.wide.inRound l) (n - 1 - 1) P (λ e _ W' => e = .exit id /\ KeepsOthers W W' /\ Ix W') (a₁ m) W)
    (hstop : ∀ (D : Nat) (W : World), w.heap.size <= D -> Ix W -> W.heap[D]? = some (.deferred (some [])) -> (Code.exit id).wpIn Fence.wide n P Q { a with defers := { target := .collected D, args := #[] } :: a.defers } W) :
    (Code.rangeFunc g ps assign body).wpIn Fence.wide n P Q a w := by
  refine wpIn_rangeFunc λ fn hfn => ?_
  have hsz : (w.alloc (.deferred (some []))).heap.size = w.heap.size + 1 := by simp
  obtain ⟨W1, hW1⟩ : ∃ W1, (w.alloc (.deferred (some []))).alloc (.loop (recOf fn w.heap.size a.tmps ps assign body .ready none)) = W1 := ⟨_, rfl⟩
  have hsz1 : W1.heap.size = w.heap.size + 2 := by rw [<- hW1]; simp
  have hrec : Rec w.heap.size (recOf fn w.heap.size a.tmps ps assign body .ready none) W1 := by
    refine ⟨?_, ?_⟩
    . have h := World.alloc_heap_new (w.alloc (.deferred (some []))) (.loop (recOf fn w.heap.size a.tmps ps assign body .ready none))
      rw [hsz, hW1] at h
      exact h
    . rw [<- hW1]
      exact (Below.heap_alloc _ _ _ (by simp)).trans (World.alloc_heap_new w _)
  have hbel : Below w.heap.size w W1 := by rw [<- hW1]; exact ((Below.refl _ w).alloc (Nat.le_refl _) _).alloc (by simp) _
  have hI1 : I 0 W1 := by rw [<- hW1]; exact hI.alloc _ (hI.alloc _ h0)
  refine ⟨w.heap.size + 1, [{ target := .collected w.heap.size, args := #[] }], W1, { target := .fn (.func gf) lb, args := #[.func (.yield (w.heap.size + 1)) #[] #[]] }, W1, gf, #[.func (.yield (w.heap.size + 1)) #[] #[]] ++ lb, W1,
    ?_, ?_, λ _ _ => trivial, ?_, λ _ => h1, ?_⟩
  . rw [<- hW1]
    exact run_enterLoop_outer _ _ _ _ _
  . simp only [resolve, hg]
    simp [go_sem]
  . simp [invoke, go_sem, eg]
  . -- the invariant of the iterator's: the caller's own, and the record lies ready
    refine (hseq (w.heap.size + 1) (λ k W => I k W /\ Rec w.heap.size (recOf fn w.heap.size a.tmps ps assign body .ready none) W)
      (λ W => Ix W /\ Rec w.heap.size (recOf fn w.heap.size a.tmps ps assign body .done (some (.exit id))) W) W1 hbel ?_ ?_ ?_ ⟨hI1, hrec⟩).mono ?_
    . intro k A B row hs hgr hrow
      have hrow' : ∀ r, row = some r -> w.heap.size <= r /\ ∃ o : Obj, A.heap[r]? = some o /\ o.isCells = false := λ r e => by
        obtain ⟨hB, o, ho, hw⟩ := hrow r e
        exact ⟨by omega, o, ho, Obj.not_cells_of_walk hw⟩
      exact ⟨hI k A B row hs.1 hgr hrow', (grownBy_keeps hgr (λ r e => (hrow r e).2) hs.2.1 rfl).trans hs.2.1, (grownBy_keeps hgr (λ r e => (hrow r e).2) hs.2.2 rfl).trans hs.2.2⟩
    . -- a round that goes on
      intro k W hk hs
      have hy := run_yield (P := P) (args := args k) hs.2.1 (hps k)
      refine ⟨fn, _, assign, body, hy, roundIn_of_wpIn hfn (hassign _ k W _ ⟨_, run_beginRound hs.2.1 rfl, ?_⟩)⟩
      have hr2 := hs.2.turn { recOf fn w.heap.size a.tmps ps assign body .ready none with state := .busy }
      have hb2 := hs.2.below hn₀ { recOf fn w.heap.size a.tmps ps assign body .ready none with state := .busy }
      have hi2 := hI.putObj (.loop { recOf fn w.heap.size a.tmps ps assign body .ready none with state := .busy }) hs.1 (Nat.le_succ _) hs.2.1 rfl
      refine wpIn_mono (hbody _ k _ hk hi2) ?_
      rintro e a3 W3 ⟨rfl, hk3, hb3, hi3⟩
      have hr3 := hr2.keep hk3
      refine ⟨_, _, run_endRound none hr3.1, rfl, ⟨hI.putObj _ hi3 (Nat.le_succ _) hr3.1 rfl, hr3.turn _⟩, (hb2.trans hb3).trans (hr3.below hn₀ _)⟩
    . -- the last round
      intro W hs
      have hy := run_yield (P := P) (args := args m) hs.2.1 (hps m)
      refine ⟨fn, _, assign, body, hy, roundIn_of_wpIn hfn (hassign _ m W _ ⟨_, run_beginRound hs.2.1 rfl, ?_⟩)⟩
      have hr2 := hs.2.turn { recOf fn w.heap.size a.tmps ps assign body .ready none with state := .busy }
      have hi2 := hI.putObj (.loop { recOf fn w.heap.size a.tmps ps assign body .ready none with state := .busy }) hs.1 (Nat.le_succ _) hs.2.1 rfl
      refine wpIn_mono (hlast _ _ hi2) ?_
      rintro e a3 W3 ⟨rfl, hk3, hx3⟩
      have hr3 := hr2.keep hk3
      exact ⟨_, _, run_endRound (some (.exit id)) hr3.1, rfl, hIx.putObj (s := ()) _ hx3 (Nat.le_succ _) hr3.1 rfl, hr3.turn _⟩
    . rintro e W2 ⟨⟨v, rfl⟩, hx, hr⟩
      refine ⟨some (.exit id), _, run_endLoop hr.1 (by simp [recOf]), ?_⟩
      exact hstop _ _ (Nat.le_refl _) (hIx.putObj (s := ()) _ hx (Nat.le_succ _) hr.1 rfl) ((World.putObj_heap_other (by omega)).trans hr.2)
end law
end Go.Proofs.YtiijlpmdnokjfaaDoor
namespace Go.Proofs.YtiijlpmdnokjfaaDoor
open Go.RowKit Go.Shelf
attribute [local go_sem] Oper.semAt_some
def wd (L : List (List UInt8)) (k : Nat) : ByteArray := ⟨(L.getD k []).toArray⟩
theorem wd_list (L : List (List UInt8)) (k : Nat) : (wd L k).data.toList = L.getD k [] := by simp [wd]
structure Chain (L : List (List UInt8)) (m : Nat) : Prop where
  next : ∀ k, k < m -> nextW (L.getD k []) = L.getD (k + 1) [] /\ L.getD (k + 1) [] ≠ []
  short : ∀ k, k <= m -> (L.getD k []).length <= 30
  place : ∀ k, k <= m -> L.idxOf (L.getD k []) = k
def toCome (L : List (List UInt8)) (m : Nat) : Value -> Nat
  | .string t => m + 1 - L.idxOf t.data.toList
  | _ => 0
theorem toCome_at {L : List (List UInt8)} {m k : Nat} (h : Chain L m) (hk : k <= m) : toCome L m (.string (wd L k)) = m + 1 - k := by
  simp only [toCome]
  rw [wd_list, h.place k hk]
theorem next_at (x y : ByteArray) (w : World) (hx : x.size <= maxLen) (h : nextW x.data.toList = y.data.toList) :
    Calls Tryd.prog 106 #[.string x] w λ e w' => e = .returned (.string y) /\ Below w.heap.size w w' :=
  (implNext_any x w hx).mono λ _ _ ⟨he, hb⟩ => ⟨by rw [he, h], hb⟩
theorem wordSeq_rounds (n m n₀ Bp : Nat) (h1 : 1 <= n) (L : List (List UInt8)) (hL : Chain L m) (w : World) (hBp : Bp < w.heap.size) (hc : w.cell? ⟨Bp, 0, none⟩ = some (.string (wd L 0))) :
    Rounds n Tryd.prog 105 #[.pointer (some ⟨Bp, 0, none⟩)] (λ k => #[.string (wd L k)]) m n₀ w := λ l J Jx W hW hJ hY hYm h0 => by
  have hcW : W.cell? ⟨Bp, 0, none⟩ = some (.string (wd L 0)) := (hW.cell (p := ⟨Bp, 0, none⟩) hBp).trans hc
  refine callsIn_of_wp Tryd.func105 rfl trivial ?_ rfl
  simp only [Tryd.ntmps105, List.size_toArray, List.length_cons, List.length_nil, Nat.reduceAdd, Nat.reduceSub, Array.replicate_succ, Array.replicate_zero, List.push_toArray, List.append_toArray, List.nil_append, List.cons_append]
  gi_wp2
  gi_loopw [3] (λ s wr => ∃ k : Nat, k <= m /\ s = .string (wd L k) /\ J k wr) (λ s _ => toCome L m s)
  case atStart => exact ⟨0, Nat.zero_le _, rfl, h0⟩
  case round =>
    obtain ⟨k, hk, rfl, hJk⟩ := hrel
    by_cases hlt : k < m
    . obtain ⟨fn, tmps, assign, body, hy, hR⟩ := hY k wr hlt hJk
      have HN := Lib.hid (λ w => next_at (wd L k) (wd L (k + 1)) w (by
        have h := hL.short k hk
        rw [<- wd_list] at h
        have : (wd L k).size <= 30 := by simpa using h
        unfold maxLen; omega) (by rw [wd_list, wd_list]; exact (hL.next k hlt).1))
      have hne := (hL.next k hlt).2
      rw [<- wd_list, <- ByteArray.toList_eq] at hne
      have hne2 : (wd L (k + 1)).toList.isEmpty = false := by
        cases he : (wd L (k + 1)).toList with
        | nil => exact absurd he hne
        | cons _ _ => rfl
      gi_wp2
      refine hR.mono ?_
      rintro e W3 ⟨rfl, hJ3, hb3⟩
      gi_wp2
      refine ⟨trivial, (callsIn_wide.2 (HN.out _)).mono ?_⟩
      rintro e W4 ⟨rfl, hb4⟩
      gi_wp2
      have hJ4 := hJ (k + 1) W3 W4 none hJ3 (grown_of_below hb4 none) (λ r e => by cases e)
      go_roundw
      case rel => exact ⟨k + 1, hlt, rfl, hJ4⟩
      case measure => rw [toCome_at hL hlt, toCome_at hL hk]; omega
    . obtain rfl : k = m := by omega
      obtain ⟨fn, tmps, assign, body, hy, hR⟩ := hYm wr hJk
      gi_wp2
      refine hR.mono ?_
      rintro e W3 ⟨rfl, hJ3⟩
      gi_wp2
      go_end0
      exact ⟨⟨_, rfl⟩, hJ3⟩
theorem wordsFrom_any (n : Nat) (s : ByteArray) (w : World) :
    CallsIn Fence.wide n Tryd.prog 87 #[.string s] w λ e w' => e = .returned (.func (.func 105) #[] #[.pointer (some ⟨w.heap.size, 0, none⟩)]) /\ w' = w.alloc (.cells #[.string s] 9) := by
  refine callsIn_of_wp Tryd.func87 rfl trivial ?_ rfl
  simp only [Tryd.ntmps87, List.size_toArray, List.length_cons, List.length_nil, Nat.reduceAdd, Nat.reduceSub, Array.replicate_succ, Array.replicate_zero, List.push_toArray, List.append_toArray, List.nil_append, List.cons_append]
  gi_wp2
  go_ret
  exact ⟨rfl, rfl⟩
end Go.Proofs.YtiijlpmdnokjfaaDoor
namespace Go.Proofs.YtiijlpmdnokjfaaDoor
open Go.RowKit Go.Shelf
attribute [local go_sem] Oper.semAt_some
theorem take_strs {L : List (List UInt8)} {m k : Nat} (hl : L.length = m + 1) (hk : k < m) : strs (L.take k) ++ [.string (wd L k)] = strs (L.take (k + 1)) := by
  have h : k < L.length := by omega
  rw [List.take_succ_eq_append_getElem h, strs_append]
  simp [strs, wd, h]
def LW (w : World) (most : Int) (L : List (List UInt8)) (k : Nat) (W : World) : Prop :=
  ((∃ v, Boxed W (w.heap.size + 1) 35 v /\ W.ownsRow w.heap.size 9 1 v k (strs (L.take k)) /\ True) /\ Boxed W w.heap.size 3 (.int .i64 most)) /\ Below w.heap.size w W
theorem LW_own (w : World) (most : Int) (L : List (List UInt8)) (B : Nat) (hB : w.heap.size <= B) : OwnFrom B (LW w most L) :=
  OwnFrom.and (OwnFrom.and (Own.from (holdsRow_own w.heap.size (w.heap.size + 1) 35 9 1 (λ k : Nat => k) (λ k => strs (L.take k)) (λ _ _ => True)) _) (Own.from (boxed_own w.heap.size 3 (λ _ : Nat => .int .i64 most)) _)) (ownFrom_below (Nat.le_refl _) hB)
theorem listWords_any (n m : Nat) (most : Int) (L : List (List UInt8)) (hL : Chain L m) (hl : L.length = m + 1) (hm : m <= 100000) (hn : 3 <= n) (hin : ∀ k, k < m -> ((L.getD k []).length : Int) <= most) (hout : most < ((L.getD m []).length : Int)) (w : World) :
    CallsIn Fence.wide n Tryd.prog 71 #[.string (wd L 0), .int .i64 most] w (SplPost (L.take m) w) := by
  have h1 : 1 <= n := by omega
  have h11 : 1 <= n - 1 := by omega
  obtain ⟨i0, hi, hz0, hz1, hz2⟩ := info_parts strInfo
  refine callsIn_of_wp_marks Tryd.func71 rfl trivial ?_ rfl
  simp only [Tryd.ntmps71, List.size_toArray, List.length_cons, List.length_nil, Nat.reduceAdd, Nat.reduceSub, Array.replicate_succ, Array.replicate_zero, List.push_toArray, List.append_toArray, List.nil_append, List.cons_append]
  gi_wp2
  refine ⟨trivial, (wordsFrom_any _ _ _).mono ?_⟩
  rintro e w' ⟨rfl, rfl⟩
  gi_wp2
  have bM := Boxed.new w 3 (.int .i64 most)
  have bL := Boxed.new (w.alloc (.cells #[.int .i64 most] 3)) 35 (.slice none 0 0)
  have bF := Boxed.new ((w.alloc (.cells #[.int .i64 most] 3)).alloc (.cells #[.slice none 0 0] 35)) 9 (.string (wd L 0))
  simp only [World.size_alloc] at bL bF
  have hB0 : Below w.heap.size w (((w.alloc (.cells #[.int .i64 most] 3)).alloc (.cells #[.slice none 0 0] 35)).alloc (.cells #[.string (wd L 0)] 9)) := (((Below.refl _ w).alloc (Nat.le_refl _) _).alloc (by simp) _).alloc (by simp; omega) _
  refine wp_rounds h1 (gf := 105) (lb := #[.pointer (some ⟨w.heap.size + 1 + 1, 0, none⟩)]) rfl (enters_of Tryd.func105 (by kernel_rfl) rfl) (n₀ := w.heap.size) (by simp; omega)
    (wordSeq_rounds (n - 1) m w.heap.size (w.heap.size + 1 + 1) h11 L hL _ (by simp) bF.cell) (λ _ => rfl) 0
    (LW w most L) (LW w most L m) (LW_own w most L _ (by simp; omega)) (λ _ A B row hs hg hr => LW_own w most L _ (by simp; omega) m A B row hs hg hr)
    ⟨⟨⟨_, bL.alloc _, World.ownsRow_nil _ _ _ _, trivial⟩, (bM.alloc _).alloc _⟩, hB0⟩
    (λ k => { tmps := #[.string (wd L 0), .int .i64 most, undef, .pointer (some ⟨w.heap.size, 0, none⟩), .slice none 0 0, .pointer (some ⟨w.heap.size + 1, 0, none⟩), .string (wd L k), .string (wd L 0), .func (.func 105) #[] #[.pointer (some ⟨w.heap.size + 1 + 1, 0, none⟩)], .string (wd L k), undef, undef, undef, undef, undef, undef, undef, undef, undef], defers := [] }) ?assign ?body ?last ?stop
  case assign =>
    intro l k W K hK
    gi_wp2
    exact hK
  case body =>
    rintro l k W hk ⟨⟨⟨v, hv, hrow, _⟩, hM⟩, hB⟩
    have hc := hv.cell
    have hcM := hM.cell
    have hle := hin k hk
    rw [<- wd_list, show (wd L k).data.toList.length = (wd L k).size by simp] at hle
    have HT := Lib.hid (take_strs hl hk)
    gi_wp2_with (gi_at_builtin; refine wpListIn_append_own _ rfl _ _ 35 rfl w.heap.size 9 i0 (.string ⟨#[]⟩) 1 16 Tryd.underlying35 hi hz0 hz1 hz2 rfl (by decide) _ _ _ rfl (hrow.alloc _) ⟨W.heap.size, 0, none⟩ 1 1 [.string (wd L k)] rfl rfl (cell_one_new _ _ _) (by simp [Value.oneCell']) (by unfold maxLen; omega) (by omega) (by have := hB.size; simp; omega) ?_; intro v' w1 hown' hgrow _; have hM1 := ((hM.alloc _).kept hgrow (hM.not_row (by decide) hrow)).other (show w.heap.size ≠ w.heap.size + 1 by omega) v'; obtain ⟨g', cap', rfl⟩ := ownsRow_succ hown'; obtain ⟨hv1, hv2, hr2, hk2, hb2⟩ := hv.appended (by decide) hrow hB.size (by simp) hown' hgrow; have hc1 := hv1.cell; have hf1 := hv1.frozen)
    exact ⟨⟨⟨_, hv2, by rw [<- HT.out]; exact hr2, trivial⟩, hM1⟩, hB.trans hb2⟩
  case last =>
    rintro l W ⟨⟨⟨v, hv, hrow, _⟩, hM⟩, hB⟩
    have hcM := hM.cell
    have hgt := hout
    rw [<- wd_list, show (wd L m).data.toList.length = (wd L m).size by simp] at hgt
    gi_wp2
    exact ⟨KeepsOthers.refl _, ⟨⟨v, hv, hrow, trivial⟩, hM⟩, hB⟩
  case stop =>
    rintro D W hD ⟨⟨⟨v, hv, hrow, _⟩, hM⟩, hB⟩ hK
    have hc := hv.cell
    gi_wp2
    refine ⟨by simp, .inl ⟨_, _, rfl, run_takeDeferred hK, ?_⟩⟩
    have hlen : (L.take m).length = m := by rw [List.length_take]; omega
    refine ⟨_, results_tmp rfl _ _ _, v, rfl, by rw [hlen]; exact ownsRow_putObj hrow _ hK rfl, hB.trans (belowK_b (w := w) (Nat.le_refl _) W D _ _ (by simp at hD; omega) hK rfl rfl)⟩
end Go.Proofs.YtiijlpmdnokjfaaDoor
namespace Go.Proofs.YtiijlpmdnokjfaaDoor
def chainB (L : List (List UInt8)) (m n : Nat) : Bool :=
  (List.range m).all (λ k => (nextW (L.getD k []) == L.getD (k + 1) []) && !(L.getD (k + 1) []).isEmpty && decide ((L.getD k []).length <= n)) &&
    (List.range (m + 1)).all (λ k => decide ((L.getD k []).length <= 30) && (L.idxOf (L.getD k []) == k)) && decide (n < (L.getD m []).length) && (L.length == m + 1) && decide (m <= 400)
theorem chain_of {L : List (List UInt8)} {m n : Nat} (h : chainB L m n = true) :
    Chain L m /\ L.length = m + 1 /\ m <= 100000 /\ (∀ k, k < m -> ((L.getD k []).length : Int) <= n) /\ (n : Int) < ((L.getD m []).length : Int) := by
  simp only [chainB, Bool.and_eq_true, List.all_eq_true, List.mem_range, beq_iff_eq, decide_eq_true_eq] at h
  obtain ⟨⟨⟨⟨h1, h2⟩, h3⟩, h4⟩, h5⟩ := h
  refine ⟨⟨λ k hk => ⟨(h1 k hk).1.1, λ e => ?_⟩, λ k hk => (h2 k (by omega)).1, λ k hk => (h2 k (by omega)).2⟩, h4, by omega, λ k hk => by have := (h1 k hk).2; omega, by omega⟩
  have := (h1 k hk).1.2
  rw [e] at this
  simp at this
def chainOf (n : Nat) : List (List UInt8) := wordsOf n ++ [List.replicate (n + 1) 97]
def chainTo (n : Nat) : List (List UInt8) := wordsTo n ++ [List.replicate (n + 1) 97]
theorem chains_to : ((List.range 6).all λ n => chainB (chainTo n) (wordsTo n).length n) = true := by decide +kernel
theorem chainTo_ok (n : Nat) (h : n <= 5) : chainB (chainTo n) (wordsTo n).length n = true := List.all_eq_true.1 chains_to n (List.mem_range.2 (by omega))
theorem chainTo_take (n : Nat) : (chainTo n).take (wordsTo n).length = wordsTo n := by simp [chainTo]
theorem firsts : ((List.range 6).all λ n => ((chainOf n).getD 0 [] == List.replicate n 97) && ((chainTo n).getD 0 [] == [])) = true := by decide +kernel
theorem first_to (n : Nat) (h : n <= 5) : wd (chainTo n) 0 = ⟨#[]⟩ := by
  have := List.all_eq_true.1 firsts n (List.mem_range.2 (by omega))
  simp only [Bool.and_eq_true, beq_iff_eq] at this
  unfold wd
  rw [this.2]
end Go.Proofs.YtiijlpmdnokjfaaDoor
namespace Go.Proofs.YtiijlpmdnokjfaaDoor
open Go.RowKit
theorem list_to (n : Nat) (h : n <= 5) (w : World) : Calls Tryd.prog 71 #[.string ⟨#[]⟩, .int .i64 n] w (SplPost (wordsTo n) w) := by
  obtain ⟨h1, h2, h3, h4, h5⟩ := chain_of (chainTo_ok n h)
  have := callsIn_wide.1 (listWords_any 3 _ n (chainTo n) h1 h2 h3 (Nat.le_refl _) h4 h5 w)
  rw [first_to n h, chainTo_take] at this
  exact this
theorem implTo_none (n : Int) (w : World) (h : n < 0) : Calls Tryd.prog 45 #[.int .i64 n] w (SplPost [] w) := by
  go_enter Tryd.func45, Tryd.ntmps45
  go_wp2
  go_ret
  exact ⟨_, rfl, World.ownsRow_nil _ _ _ _, Below.refl _ _⟩
theorem implTo_any (n : Int) (k : Nat) (w : World) (h0 : 0 <= n) (hk : k <= 5) (hn : (if 5 < n then 5 else n) = (k : Int)) : Calls Tryd.prog 45 #[.int .i64 n] w (SplPost (wordsTo k) w) := by
  have HL := Lib.hid (λ w => list_to k hk w)
  have hmin : ∀ w, (Builtin.min_ #[3, 3] 3 #[.int .i64 n, .int .i64 5]).run Tryd.prog w = .ok (.int .i64 k) w := λ w => by
    have := run_min_int2 (P := Tryd.prog) (w := w) #[3, 3] 3 .i64 .i64 n 5
    rw [this, <- hn]
  clear hn
  go_enter Tryd.func45, Tryd.ntmps45
  go_wp2_with fail
  refine (HL.out _).mono ?_
  intro e w1 hp
  have HP := Lib.hid hp
  obtain ⟨v, rfl, _, _⟩ := hp
  go_wp2_with fail
  go_ret
  exact HP.out
theorem awdR_len (d : Dx) (n : Int) : (awdR d n).length <= 2097152 := by
  have h1 := List.length_filter_le (accR d) (under (mostU n))
  have h2 := under_le (mostU n) (mostU_le n)
  unfold awdR
  omega
theorem implTo_all (n : Int) (w : World) : Calls Tryd.prog 45 #[.int .i64 n] w (SplPost (under (mostU n)) w) := by
  unfold mostU
  by_cases h : n < 0
  . rw [if_pos h]
    exact implTo_none n w h
  . rw [if_neg h]
    have e : ∀ k, under (k + 1) = wordsTo k := λ k => under_succ k
    by_cases h5 : 5 < n
    . rw [if_pos h5, e 5]
      exact implTo_any n 5 w (by omega) (by omega) (by rw [if_pos h5]; rfl)
    . rw [if_neg h5, e n.toNat]
      exact implTo_any n n.toNat w (by omega) (by omega) (by rw [if_neg h5]; omega)
theorem implAwd_any (va vn : Value) (d : Dx) (S : Nat -> Prop) (n : Int) (w : World) (h : DfaV w S va vn d) :
    Calls Tryd.prog 15 #[.agg #[va, vn], .int .i64 n] w (SplPost (awdR d n) w) := by
  obtain ⟨i0, hi, hz0, hz1, hz2⟩ := info_parts strInfo
  obtain ⟨W0, hW0⟩ : ∃ W0, W0 = w.alloc (.cells #[va, vn] 27) := ⟨_, rfl⟩
  have HB0 : Hid (Below w.heap.size w W0) := Lib.hid (by rw [hW0]; exact (Below.refl _ _).alloc (Nat.le_refl _) _)
  have HX : Hid (Bx2 W0 w.heap.size va vn) := Lib.hid (by
    have k := box2_kept (w := w) (w1 := W0) (a := va) (b := vn) (t := 27) (by rw [hW0]; exact Below.refl _ _)
    exact ⟨k.2.1, k.2.2.1⟩)
  have HAc := Lib.hid (λ (V : World) (hV : Below w.heap.size w V) (s : ByteArray) (hs : s.size <= 100) => implAcc_any va vn d S s V (h.kept hV) (by omega))
  have HTo := Lib.hid (implTo_all n W0)
  obtain ⟨⟨A, c, rfl⟩, A', c', rfl⟩ := h.shape
  have hul := under_le (mostU n) (mostU_le n)
  have HSh : Hid (∀ (k : Nat) (x : List UInt8), (under (mostU n))[k]? = some x -> x.length <= 100) := Lib.hid (λ k x hx => by
    have h1 := under_short (List.mem_of_getElem? hx)
    have h2 := mostU_le n
    omega)
  show Calls _ _ _ _ (SplPost ((under (mostU n)).filter (accR d)) w)
  obtain ⟨L, hL⟩ : ∃ L, L = under (mostU n) := ⟨_, rfl⟩
  rw [<- hL] at hul HSh HTo ⊢
  obtain ⟨N, hN⟩ : ∃ N, N = L.length := ⟨_, rfl⟩
  rw [<- hN] at hul
  have HN := Lib.hid hN
  clear h hL hN
  go_enter Tryd.func15, Tryd.ntmps15
  go_upto_region 2 with fail
  rw [<- hW0]
  clear hW0
  go_wp2_with fail
  refine HTo.out.mono ?_
  rintro e w1 ⟨v, rfl, hown1, hb1⟩
  have HB1 := Lib.hid (HB0.out.trans (hb1.mono HB0.out.size))
  have HX1 := Lib.hid (HX.out.kept hb1)
  have HR1 := Lib.hid ((RowO.of_owns hown1 (by rw [<- HN.out]; omega)).row)
  obtain ⟨Al, cl, hv⟩ := (RowO.of_owns hown1 (by rw [<- HN.out]; omega)).row.shape
  rw [strs_length] at hv
  rw [<- HN.out] at hv
  subst hv
  clear hown1 hb1
  go_wp2_with fail
  go_loopw [5, 11] (λ v iv wr => ∃ k : Nat, iv = .int .i64 k /\ k <= N /\ Hid (wr.ownsRow w1.heap.size 9 1 v ((L.take k).filter (accR d)).length (strs ((L.take k).filter (accR d)))) /\ Hid (Below w1.heap.size w1 wr)) (λ _ iv _ => N - (intOf iv).toNat)
  case atStart => exact ⟨0, rfl, Nat.zero_le _, Lib.hid ⟨rfl, .inl ⟨rfl, rfl⟩⟩, Lib.hid (Below.refl _ _)⟩
  case round =>
    obtain ⟨k, rfl, hk, HO, HBr⟩ := hrel
    have HBw := Lib.hid (HB1.out.trans (HBr.out.mono HB1.out.size))
    by_cases hlt : k < N
    . have hd : decide ((k : Int) < (N : Int)) = true := by simp; omega
      obtain ⟨x, hx⟩ : ∃ x, L[k]? = some x := ⟨_, List.getElem?_eq_getElem (by rw [<- HN.out]; exact hlt)⟩
      have HS := Lib.hid (filter_snoc (p := accR d) hx)
      obtain ⟨-, A2, c2, hA2, hc⟩ := HR1.out.kept HBr.out
      injection hA2 with e1 e2 e3
      subst e1
      clear e2 e3
      obtain ⟨ad1, had, -, hcx⟩ := hc k (.string ⟨x.toArray⟩) (by simp [strs, hx])
      subst had
      obtain ⟨s, hs⟩ : ∃ s : ByteArray, s = ⟨x.toArray⟩ := ⟨_, rfl⟩
      rw [<- hs] at hcx
      have hsz : s.size <= 100 := by
        rw [hs]
        have := HSh.out k x hx
        simpa [ByteArray.size] using this
      have HSx : Hid (s.data.toList = x) := Lib.hid (by rw [hs])
      have HSt : Hid (Value.string s = .string ⟨x.toArray⟩) := Lib.hid (by rw [hs])
      obtain ⟨p0, p1⟩ := HX1.out.kept HBr.out
      have HAk := Lib.hid (HAc.out wr HBw.out s hsz)
      rw [HSx.out] at HAk
      have s1 : (0 : Int) <= (k : Int) := by omega
      have s2 : (k : Int) < (N : Int) := by omega
      obtain ⟨b, hb⟩ : ∃ b, b = accR d x := ⟨_, rfl⟩
      rw [<- hb] at HAk HS
      clear hs hx hc hb
      go_wp2_with fail
      go_at_call 46
      refine HAk.out.mono ?_
      rintro e1 w4 ⟨rfl, hb4⟩
      have HB4 := Lib.hid (HBr.out.trans (hb4.mono HBr.out.size))
      have HO4 := Lib.hid (owns_below HO.out hb4)
      have hfl : ((L.take k).filter (accR d)).length <= N := by rw [HN.out]; exact filter_le
      obtain ⟨F, hF⟩ : ∃ F, F = (L.take k).filter (accR d) := ⟨_, rfl⟩
      obtain ⟨F2, hF2⟩ : ∃ F, F = (L.take (k + 1)).filter (accR d) := ⟨_, rfl⟩
      rw [<- hF] at HS HO4 hfl
      rw [<- hF2] at HS
      have HF2 := Lib.hid hF2
      clear hF hF2 hb4 p0 p1 hcx
      cases b with
      | true =>
        have HS2 : Hid (F2 = F ++ [x]) := Lib.hid (by rw [HS.out]; rfl)
        have hz4 : w1.heap.size <= w4.heap.size := HB4.out.size
        go_wp2_with (at_builtin; refine wpList_append_own_at _ rfl (.tmp 18) (.tmp 20) 35 rfl w1.heap.size 9 i0 (.string ⟨#[]⟩) 1 16 Tryd.underlying35 hi hz0 hz1 hz2 rfl (by decide) _ _ _ rfl (HO4.out.alloc _) ⟨w4.heap.size, 0, none⟩ 1 1 [.string s] rfl rfl (cell_one_new _ _ _) (by simp [Value.oneCell']) (by unfold maxLen; omega) (by omega) (by simp; omega) ?_)
        intro v5 w5 hown5 hgrow5 hnil5 hat5
        have HO5 : Hid (w5.ownsRow w1.heap.size 9 1 v5 F2.length (strs F2)) := Lib.hid (by
          rw [HS2.out, strs_append, List.length_append]
          rw [HSt.out] at hown5
          exact hown5)
        have HB5 := Lib.hid ((HB4.out.alloc hz4 (.cells #[.string s] 9)).grown hgrow5 (by simp; omega) (λ g e => (HO4.out.lt g e).1))
        clear hown5 hgrow5 hnil5 hat5
        go_wp2_with fail
        go_roundw
        case rel => exact ⟨k + 1, by go_num, by omega, by rw [<- HF2.out]; exact HO5, HB5⟩
        case measure => simp [intOf]; omega
      | false =>
        have HS2 : Hid (F2 = F) := Lib.hid (by rw [HS.out]; simp)
        go_wp2_with fail
        go_roundw
        case rel => exact ⟨k + 1, by go_num, by omega, by rw [<- HF2.out, HS2.out]; exact HO4, HB4⟩
        case measure => simp [intOf]; omega
    . have hke : k = N := by omega
      have hd : decide ((k : Int) < (N : Int)) = false := by simp; omega
      have HOf : Hid (wr.ownsRow w1.heap.size 9 1 u5 (L.filter (accR d)).length (strs (L.filter (accR d)))) := Lib.hid (by
        have h := HO.out
        rw [hke, HN.out, List.take_length] at h
        exact h)
      clear HO hke
      go_wp2_with fail
      go_ret
      exact ⟨_, rfl, own_on HOf.out (λ _ _ => rfl) HB1.out.size, HBw.out⟩
end Go.Proofs.YtiijlpmdnokjfaaDoor
