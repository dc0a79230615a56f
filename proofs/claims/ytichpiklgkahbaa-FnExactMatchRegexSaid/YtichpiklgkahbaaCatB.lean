/-
  What the closures of impl.catMatcher and impl.starMatcher answer, where those that they ask answer what they should.
-/
import Derived.Test.YtichpiklgkahbaaMat
namespace Go.Proofs.Ytichpiklgkahbaa
open Go.RowKit

/-- Two variables that hold closures, and what these hold. -/
def Two (k1 : Nat) (cap1 : Array Value) (k2 : Nat) (cap2 : Array Value) (bl br : Nat) (J1 J2 : World → Prop) (w : World) : Prop :=
  w.heap[bl]? = some (.cells #[.func (.func k1) #[] cap1] 49 (0, 0)) ∧ w.heap[br]? = some (.cells #[.func (.func k2) #[] cap2] 49 (0, 0)) ∧ J1 w ∧ J2 w
/-- One such. -/
def One (k1 : Nat) (cap1 : Array Value) (bl : Nat) (J1 : World → Prop) (w : World) : Prop := w.heap[bl]? = some (.cells #[.func (.func k1) #[] cap1] 49 (0, 0)) ∧ J1 w
theorem Chg.was {S : Nat → Prop} {w w' : World} (h : Chg S w w') {g : Nat} {o : Obj} (hg : w.heap[g]? = some o) (hn : ¬ S g) : w'.heap[g]? = some o := (h.block g (lt_of_block hg) hn).trans hg
theorem Mat.past {N : Nat} {M : Mt} {k : Nat} {cap : Array Value} {J : World → Prop} {S S' : Nat → Prop} (m : Mat N M k cap J S) {w w' : World} (h : J w) (hc : Chg S' w w') (hd : ∀ g, S g → ¬ S' g) : J w' :=
  m.keeps w w' h fun g hg => hc.block g (m.has w h g hg) (hd g hg)

section
variable {N : Nat} {p q : Mt} {k1 k2 : Nat} {cap1 cap2 : Array Value} {J1 J2 : World → Prop} {S1 S2 : Nat → Prop} {bl br : Nat}

/-- The first one's call. -/
theorem two_left (m1 : Mat N p k1 cap1 J1 S1) (m2 : Mat N q k2 cap2 J2 S2) (hd : ∀ g, S1 g → ¬ S2 g) (h1 : ¬ S1 bl) (h2 : ¬ S1 br) {w0 : World} {i j : Nat} (hij : i ≤ j) (hj : j ≤ N) {w : World} (hw : Two k1 cap1 k2 cap2 bl br J1 J2 w) (hc : Chg (fun g => S1 g ∨ S2 g) w0 w) :
    Calls Try.prog k1 (#[.int .i64 (i : Int), .int .i64 (j : Int)] ++ cap1) w fun e w' => e = .returned (.bool (p i j)) ∧ Two k1 cap1 k2 cap2 bl br J1 J2 w' ∧ Chg (fun g => S1 g ∨ S2 g) w0 w' :=
  (m1.call i j hij hj w hw.2.2.1).mono fun _ _ ⟨he, hJ, hch⟩ => ⟨he, ⟨hch.was hw.1 h1, hch.was hw.2.1 h2, hJ, m2.past hw.2.2.2 hch fun g hg hg' => hd g hg' hg⟩, hc.trans (hch.more fun _ h => .inl h)⟩
theorem two_right (m1 : Mat N p k1 cap1 J1 S1) (m2 : Mat N q k2 cap2 J2 S2) (hd : ∀ g, S1 g → ¬ S2 g) (h1 : ¬ S2 bl) (h2 : ¬ S2 br) {w0 : World} {i j : Nat} (hij : i ≤ j) (hj : j ≤ N) {w : World} (hw : Two k1 cap1 k2 cap2 bl br J1 J2 w) (hc : Chg (fun g => S1 g ∨ S2 g) w0 w) :
    Calls Try.prog k2 (#[.int .i64 (i : Int), .int .i64 (j : Int)] ++ cap2) w fun e w' => e = .returned (.bool (q i j)) ∧ Two k1 cap1 k2 cap2 bl br J1 J2 w' ∧ Chg (fun g => S1 g ∨ S2 g) w0 w' :=
  (m2.call i j hij hj w hw.2.2.2).mono fun _ _ ⟨he, hJ, hch⟩ => ⟨he, ⟨hch.was hw.1 h1, hch.was hw.2.1 h2, m1.past hw.2.2.1 hch hd, hJ⟩, hc.trans (hch.more fun _ h => .inr h)⟩

set_option maxHeartbeats 1600000 in
theorem cat_body (m1 : Mat N p k1 cap1 J1 S1) (m2 : Mat N q k2 cap2 J2 S2) (hd : ∀ g, S1 g → ¬ S2 g) (h11 : ¬ S1 bl) (h12 : ¬ S1 br) (h21 : ¬ S2 bl) (h22 : ¬ S2 br) (hN : N ≤ 30) (i j : Nat) (hij : i ≤ j) (hj : j ≤ N) :
    Ans 79 #[.pointer (some ⟨bl, 0, none⟩), .pointer (some ⟨br, 0, none⟩)] (catM p q i j) (Two k1 cap1 k2 cap2 bl br J1 J2) (fun g => S1 g ∨ S2 g) i j := by
  intro w hw
  have en1 := m1.enter
  have en2 := m2.enter
  have HL := Lib.hid (fun (i j : Nat) (hij : i ≤ j) (hj : j ≤ N) (wr : World) (h : Two k1 cap1 k2 cap2 bl br J1 J2 wr) (hc : Chg (fun g => S1 g ∨ S2 g) w wr) => two_left m1 m2 hd h11 h12 hij hj h hc)
  have HR := Lib.hid (fun (i j : Nat) (hij : i ≤ j) (hj : j ≤ N) (wr : World) (h : Two k1 cap1 k2 cap2 bl br J1 J2 wr) (hc : Chg (fun g => S1 g ∨ S2 g) w wr) => two_right m1 m2 hd h21 h22 hij hj h hc)
  have HW := Lib.hid hw
  clear m1 m2 hd h11 h12 h21 h22 hw
  go_enter Try.func79, Try.ntmps79
  go_wp2_with fail
  go_loopw [7] (fun m wr => ∃ x : Nat, m = .int .i64 x ∧ i ≤ x ∧ x ≤ j + 1 ∧ (∀ y, i ≤ y → y < x → (p i y && q y j) = false) ∧ Two k1 cap1 k2 cap2 bl br J1 J2 wr ∧ Chg (fun g => S1 g ∨ S2 g) w wr) (fun m _ => j + 1 - (intOf m).toNat)
  case atStart => exact ⟨i, rfl, Nat.le_refl _, by omega, fun y h1 h2 => by omega, HW.out, Chg.refl _ _⟩
  case round =>
    obtain ⟨x, rfl, hix, hxj, hno, hT, hc⟩ := hrel
    by_cases hx : x ≤ j
    · have c1 := cell_of_one hT.1
      have HNO := Lib.hid hno
      have HT := Lib.hid hT
      have HCC := Lib.hid hc
      clear hno hT hc
      cases hp : p i x with
      | false =>
        have HS : Hid (∀ y, i ≤ y → y < x + 1 → (p i y && q y j) = false) := Lib.hid (fun y h1 h2 => by
          by_cases hy : y = x
          · rw [hy, hp]; rfl
          · exact HNO.out y h1 (by omega))
        have HL' := Lib.hid (HL.out i x hix (by omega) wr HT.out HCC.out)
        rw [hp] at HL'
        clear hp
        go_wp2_with (go_at_fn k1; refine HL'.out.mono ?_; rintro e w1 ⟨rfl, hT1, hc1⟩)
        have HE := Lib.hid (And.intro hT1 hc1)
        clear hT1 hc1
        go_roundw
        case rel => exact ⟨x + 1, by go_num, by omega, by omega, HS.out, HE.out.1, HE.out.2⟩
        case measure => simp [intOf]; omega
      | true =>
        cases hq : q x j with
        | false =>
          have HS : Hid (∀ y, i ≤ y → y < x + 1 → (p i y && q y j) = false) := Lib.hid (fun y h1 h2 => by
            by_cases hy : y = x
            · rw [hy, hp, hq]; rfl
            · exact HNO.out y h1 (by omega))
          have HL' := Lib.hid (HL.out i x hix (by omega) wr HT.out HCC.out)
          have HR' := Lib.hid (HR.out x j hx hj)
          rw [hp] at HL'
          rw [hq] at HR'
          clear hp hq
          go_wp2_with (first | (go_at_fn k1; refine HL'.out.mono ?_; rintro e w1 ⟨rfl, hT1, hc1⟩; have c2 := cell_of_one hT1.2.1) | (go_at_fn k2; refine (HR'.out _ hT1 hc1).mono ?_; rintro e w2 ⟨rfl, hT2, hc2⟩))
          have HE := Lib.hid (And.intro hT2 hc2)
          clear hT1 hc1 hT2 hc2 c2
          go_roundw
          case rel => exact ⟨x + 1, by go_num, by omega, by omega, HS.out, HE.out.1, HE.out.2⟩
          case measure => simp [intOf]; omega
        | true =>
          have HB : Hid (catM p q i j = true) := Lib.hid (catM_yes hix hx (by rw [hp, hq]; rfl))
          have HL' := Lib.hid (HL.out i x hix (by omega) wr HT.out HCC.out)
          have HR' := Lib.hid (HR.out x j hx hj)
          rw [hp] at HL'
          rw [hq] at HR'
          clear hp hq
          go_wp2_with (first | (go_at_fn k1; refine HL'.out.mono ?_; rintro e w1 ⟨rfl, hT1, hc1⟩; have c2 := cell_of_one hT1.2.1) | (go_at_fn k2; refine (HR'.out _ hT1 hc1).mono ?_; rintro e w2 ⟨rfl, hT2, hc2⟩))
          have HE := Lib.hid (And.intro hT2 hc2)
          clear hT1 hc1 hT2 hc2 c2
          go_ret
          exact ⟨congrArg (fun b => Ending.returned (.bool b)) HB.out.symm, HE.out.1, HE.out.2⟩
    · have HB : Hid (catM p q i j = false) := Lib.hid (catM_no fun m h1 h2 => hno m h1 (by omega))
      have HT := Lib.hid hT
      have HCC := Lib.hid hc
      clear hno hT hc
      go_wp2_with fail
      go_ret
      exact ⟨congrArg (fun b => Ending.returned (.bool b)) HB.out.symm, HT.out, HCC.out⟩

/-- What a repetition's closure holds: the part's variable, its own variable. -/
def StJ (k1 : Nat) (cap1 : Array Value) (kr : Nat) (capr : Array Value) (bl br : Nat) (J1 : World → Prop) (w : World) : Prop :=
  w.heap[bl]? = some (.cells #[.func (.func k1) #[] cap1] 49 (0, 0)) ∧ w.heap[br]? = some (.cells #[.func (.func kr) #[] capr] 49 (0, 0)) ∧ J1 w

set_option maxHeartbeats 1600000 in
theorem star_body {kr : Nat} {capr : Array Value} {R : World → Prop} {S : Nat → Prop} (m1 : Mat N p k1 cap1 J1 S1) (hS : ∀ g, S1 g → S g) (h11 : ¬ S1 bl) (h12 : ¬ S1 br) (hR : ∀ w w', R w → Chg S1 w w' → R w')
    (enr : ∀ args w, (callFunc kr args).run Try.prog w = .ok (.enter kr args) w) (hN : N ≤ 30) (i j : Nat) (hij : i ≤ j) (hj : j ≤ N)
    (hrest : ∀ m, i < m → m ≤ j → Ans kr capr (starM p m j) (fun w => StJ k1 cap1 kr capr bl br J1 w ∧ R w) S m j) :
    Ans 80 #[.pointer (some ⟨bl, 0, none⟩), .pointer (some ⟨br, 0, none⟩)] (starM p i j) (fun w => StJ k1 cap1 kr capr bl br J1 w ∧ R w) S i j := by
  intro w hw
  have en1 := m1.enter
  by_cases he : i = j
  · subst he
    have HB := Lib.hid (starM_self p i)
    have HW := Lib.hid hw
    clear m1 hS h11 h12 hR enr hrest hw en1
    go_enter Try.func80, Try.ntmps80
    go_wp2_with fail
    go_ret
    exact ⟨congrArg (fun b => Ending.returned (.bool b)) HB.out.symm, HW.out, Chg.refl _ _⟩
  · have HL := Lib.hid (fun (x : Nat) (hix : i ≤ x) (hxj : x ≤ j) (wr : World) (h : StJ k1 cap1 kr capr bl br J1 wr ∧ R wr) (hc : Chg S w wr) =>
      (m1.call i x hix (Nat.le_trans hxj hj) wr h.1.2.2).mono (fun e w' ⟨he, hJ, hch⟩ => (⟨he, ⟨⟨hch.was h.1.1 h11, hch.was h.1.2.1 h12, hJ⟩, hR wr w' h.2 hch⟩, hc.trans (hch.more hS)⟩ : e = Ending.returned (.bool (p i x)) ∧ (StJ k1 cap1 kr capr bl br J1 w' ∧ R w') ∧ Chg S w w')))
    have HR := Lib.hid (fun (x : Nat) (hix : i < x) (hxj : x ≤ j) (wr : World) (h : StJ k1 cap1 kr capr bl br J1 wr ∧ R wr) (hc : Chg S w wr) =>
      (hrest x hix hxj wr h).mono (fun e w' ⟨he, h', hch⟩ => (⟨he, h', hc.trans hch⟩ : e = Ending.returned (.bool (starM p x j)) ∧ (StJ k1 cap1 kr capr bl br J1 w' ∧ R w') ∧ Chg S w w')))
    have HW := Lib.hid hw
    have HNE := Lib.hid he
    have hlt : i < j := by omega
    have e0 : ((i : Int) == (j : Int)) = false := by simp; omega
    clear m1 hS h11 h12 hR hrest hw he
    go_enter Try.func80, Try.ntmps80
    go_wp2_with fail
    go_loopw [7] (fun m wr => ∃ x : Nat, m = .int .i64 x ∧ i < x ∧ x ≤ j + 1 ∧ (∀ y, i < y → y < x → (p i y && starM p y j) = false) ∧ (StJ k1 cap1 kr capr bl br J1 wr ∧ R wr) ∧ Chg S w wr) (fun m _ => j + 1 - (intOf m).toNat)
    case atStart => exact ⟨i + 1, by go_num, Nat.lt_succ_self _, by omega, fun y h1 h2 => by omega, HW.out, Chg.refl _ _⟩
    case round =>
      obtain ⟨x, rfl, hix, hxj, hno, hT, hc⟩ := hrel
      by_cases hx : x ≤ j
      · have c1 := cell_of_one hT.1.1
        have HNO := Lib.hid hno
        have HT := Lib.hid hT
        have HCC := Lib.hid hc
        clear hno hT hc
        cases hp : p i x with
        | false =>
          have HS : Hid (∀ y, i < y → y < x + 1 → (p i y && starM p y j) = false) := Lib.hid (fun y h1 h2 => by
            by_cases hy : y = x
            · rw [hy, hp]; rfl
            · exact HNO.out y h1 (by omega))
          have HL' := Lib.hid (HL.out x (Nat.le_of_lt hix) hx wr HT.out HCC.out)
          rw [hp] at HL'
          clear hp
          go_wp2_with (go_at_fn k1; refine HL'.out.mono ?_; rintro e w1 ⟨rfl, hT1, hc1⟩)
          have HE := Lib.hid (And.intro hT1 hc1)
          clear hT1 hc1
          go_roundw
          case rel => exact ⟨x + 1, by go_num, by omega, by omega, HS.out, HE.out.1, HE.out.2⟩
          case measure => simp [intOf]; omega
        | true =>
          cases hq : starM p x j with
          | false =>
            have HS : Hid (∀ y, i < y → y < x + 1 → (p i y && starM p y j) = false) := Lib.hid (fun y h1 h2 => by
              by_cases hy : y = x
              · rw [hy, hp, hq]; rfl
              · exact HNO.out y h1 (by omega))
            have HL' := Lib.hid (HL.out x (Nat.le_of_lt hix) hx wr HT.out HCC.out)
            have HR' := Lib.hid (HR.out x hix hx)
            rw [hp] at HL'
            rw [hq] at HR'
            clear hp hq
            go_wp2_with (first | (go_at_fn k1; refine HL'.out.mono ?_; rintro e w1 ⟨rfl, hT1, hc1⟩; have c2 := cell_of_one hT1.1.2.1) | (go_at_fn kr; refine (HR'.out _ hT1 hc1).mono ?_; rintro e w2 ⟨rfl, hT2, hc2⟩))
            have HE := Lib.hid (And.intro hT2 hc2)
            clear hT1 hc1 hT2 hc2 c2
            go_roundw
            case rel => exact ⟨x + 1, by go_num, by omega, by omega, HS.out, HE.out.1, HE.out.2⟩
            case measure => simp [intOf]; omega
          | true =>
            have HB : Hid (starM p i j = true) := Lib.hid (starM_yes hix hp hq)
            have HL' := Lib.hid (HL.out x (Nat.le_of_lt hix) hx wr HT.out HCC.out)
            have HR' := Lib.hid (HR.out x hix hx)
            rw [hp] at HL'
            rw [hq] at HR'
            clear hp hq
            go_wp2_with (first | (go_at_fn k1; refine HL'.out.mono ?_; rintro e w1 ⟨rfl, hT1, hc1⟩; have c2 := cell_of_one hT1.1.2.1) | (go_at_fn kr; refine (HR'.out _ hT1 hc1).mono ?_; rintro e w2 ⟨rfl, hT2, hc2⟩))
            have HE := Lib.hid (And.intro hT2 hc2)
            clear hT1 hc1 hT2 hc2 c2
            go_ret
            exact ⟨congrArg (fun b => Ending.returned (.bool b)) HB.out.symm, HE.out.1, HE.out.2⟩
      · have HB : Hid (starM p i j = false) := Lib.hid (starM_no HNE.out fun m h1 h2 => hno m h1 (by omega))
        have HT := Lib.hid hT
        have HCC := Lib.hid hc
        clear hno hT hc
        go_wp2_with fail
        go_ret
        exact ⟨congrArg (fun b => Ending.returned (.bool b)) HB.out.symm, HT.out, HCC.out⟩
end
end Go.Proofs.Ytichpiklgkahbaa
