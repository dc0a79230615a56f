/-
  What spec.l3Node answers at every depth.
-/
import Derived.Test.YtfhghgbiemjddaaParNodeTwo
namespace Go.Proofs.Ytfhghgbiemjddaa
open Go.RowKit

def NdPost (d g : Nat) (s : ByteArray) (bad : Bool) (rest : List UInt8) (w : World) (e : Ending) (w' : World) : Prop :=
  match (if bad then none else parse d rest) with
  | some (x, t) => NdYes d g s x t w e w'
  | none => NdNo g s w e w'
def NdAt (d : Nat) : Prop := ∀ (D : Int) (g : Nat) (s : ByteArray) (p : Nat) (bad : Bool) (rest : List UInt8) (w : World), D = 7 - d → St w g s p bad → s.size ≤ 1048576 → s.data.toList.drop p = rest → p ≤ s.size →
  Calls Try.prog 35 #[.pointer (some ⟨g, 0, none⟩), .int .i64 D] w (NdPost d g s bad rest w)
theorem nd_some {d g : Nat} {s : ByteArray} {rest : List UInt8} {x : Nd} {t : List UInt8} {w w' : World} {e : Ending} (hp : parse d rest = some (x, t)) (h : NdYes d g s x t w e w') : NdPost d g s false rest w e w' := by
  unfold NdPost; rw [if_neg (by decide), hp]; exact h
theorem nd_none {d g : Nat} {s : ByteArray} {rest : List UInt8} {w w' : World} {e : Ending} (hp : parse d rest = none) (h : NdNo g s w e w') : NdPost d g s false rest w e w' := by
  unfold NdPost; rw [if_neg (by decide), hp]; exact h
theorem nd_bad {d g : Nat} {s : ByteArray} {rest : List UInt8} {w w' : World} {e : Ending} (h : NdNo g s w e w') : NdPost d g s true rest w e w' := by
  unfold NdPost; rw [if_pos rfl]; exact h
theorem NdAt.yes {d : Nat} (h : NdAt d) {D : Int} (hD : D = 7 - d) {g : Nat} {s : ByteArray} {p : Nat} {rest : List UInt8} {x : Nd} {t : List UInt8} (hp : parse d rest = some (x, t)) (w : World) (hst : St w g s p false) (hs : s.size ≤ 1048576) (hr : s.data.toList.drop p = rest) (hps : p ≤ s.size) :
    Calls Try.prog 35 #[.pointer (some ⟨g, 0, none⟩), .int .i64 D] w (NdYes d g s x t w) :=
  (h D g s p false rest w hD hst hs hr hps).mono fun e w' hh => by unfold NdPost at hh; rw [if_neg (by decide), hp] at hh; exact hh
theorem NdAt.no {d : Nat} (h : NdAt d) {D : Int} (hD : D = 7 - d) {g : Nat} {s : ByteArray} {p : Nat} {rest : List UInt8} (hp : parse d rest = none) (w : World) (hst : St w g s p false) (hs : s.size ≤ 1048576) (hr : s.data.toList.drop p = rest) (hps : p ≤ s.size) :
    Calls Try.prog 35 #[.pointer (some ⟨g, 0, none⟩), .int .i64 D] w (NdNo g s w) :=
  (h D g s p false rest w hD hst hs hr hps).mono fun e w' hh => by unfold NdPost at hh; rw [if_neg (by decide), hp] at hh; exact hh
theorem NdAt.bad {d : Nat} (h : NdAt d) {D : Int} (hD : D = 7 - d) {g : Nat} {s : ByteArray} {p : Nat} (w : World) (hst : St w g s p true) (hs : s.size ≤ 1048576) (hps : p ≤ s.size) :
    Calls Try.prog 35 #[.pointer (some ⟨g, 0, none⟩), .int .i64 D] w (NdNo g s w) :=
  (h D g s p true _ w hD hst hs rfl hps).mono fun e w' hh => by unfold NdPost at hh; rw [if_pos rfl] at hh; exact hh

theorem tk_bad (c : UInt8) (rest : List UInt8) : tk true c rest = false := rfl
theorem tk_nil (c : UInt8) : tk false c [] = false := rfl
theorem tk_same (c : UInt8) (r : List UInt8) : tk false c (c :: r) = true := by simp [tk]
theorem tk_other {b c : UInt8} (r : List UInt8) (h : ¬ b = c) : tk false c (b :: r) = false := by simp [tk, h]
theorem sign_tri (t : List UInt8) : (∃ r, t = 124 :: r ∧ signB t = (6, r)) ∨ (∃ r, t = 38 :: r ∧ signB t = (7, r)) ∨ (tk false 124 t = false ∧ tk false 38 t = false ∧ signB t = (5, t)) := by
  cases t with
  | nil => exact .inr (.inr ⟨rfl, rfl, rfl⟩)
  | cons c r =>
    by_cases h1 : c = 124
    · subst h1; exact .inl ⟨r, rfl, rfl⟩
    · by_cases h2 : c = 38
      · subst h2; exact .inr (.inl ⟨r, rfl, rfl⟩)
      · exact .inr (.inr ⟨tk_other r h1, tk_other r h2, by rw [signB_cons, if_neg h1, if_neg h2]⟩)
theorem letter_three {c : UInt8} (h : isLetter c = true) : c = 97 ∨ c = 98 ∨ c = 99 := by
  obtain ⟨-, h1, h2⟩ := letIdx_yes h
  have : c.toNat = 97 ∨ c.toNat = 98 ∨ c.toNat = 99 := by omega
  rcases this with e | e | e
  · exact .inl (UInt8.toNat_inj.1 (by rw [e]; rfl))
  · exact .inr (.inl (UInt8.toNat_inj.1 (by rw [e]; rfl)))
  · exact .inr (.inr (UInt8.toNat_inj.1 (by rw [e]; rfl)))
theorem next_place {s : ByteArray} {c : UInt8} {t : List UInt8} (p : Nat) (h : s.data.toList.drop p = c :: t) : s.data.toList.drop (p + 1) = t ∧ p + 1 ≤ s.size := ⟨(at_place h).2.2, (at_place h).1⟩
theorem close_tri (t : List UInt8) : (∃ r, t = 41 :: r ∧ closeB t = some r) ∨ (tk false 41 t = false ∧ closeB t = none) := by
  cases t with
  | nil => exact .inr ⟨rfl, rfl⟩
  | cons c r =>
    by_cases h1 : c = 41
    · subst h1; exact .inl ⟨r, rfl, rfl⟩
    · exact .inr ⟨tk_other r h1, by rw [closeB_cons, if_neg h1]⟩

theorem ndAt_two {d : Nat} (ih : NdAt d) (D : Int) (hd : d ≤ 5) (hD : D = 6 - d) (g : Nat) (s : ByteArray) (p : Nat) (r : List UInt8) (w : World) (h : St w g s p false) (hs : s.size ≤ 1048576) (hr : s.data.toList.drop p = 40 :: r) (hp : p ≤ s.size) :
    Calls Try.prog 35 #[.pointer (some ⟨g, 0, none⟩), .int .i64 D] w (NdPost (d + 1) g s false (40 :: r) w) := by
  have h42 : tk false 42 (40 :: r) = false := tk_other r (by decide)
  have h33 : tk false 33 (40 :: r) = false := tk_other r (by decide)
  have h40 := tk_same 40 r
  have hD1 : D + 1 = 7 - d := by omega
  obtain ⟨hr2, hp2⟩ := next_place p hr
  cases hq : parse d r with
  | none => exact (node_two_n5nn D (by omega) (by omega) g s p _ w h hs hr hp (by omega) h42 h33 h40 (fun wr hst => ih.no hD1 hq wr hst hs hr2 hp2) (fun wr p2 hst hps => ih.bad hD1 wr hst hs hps)).mono fun _ _ hh => nd_none (show (parse d r).bind _ = _ by rw [hq]; rfl) hh
  | some pr =>
    obtain ⟨x, t1⟩ := pr
    have hx := (parse_spec d r x t1 hq).2.2
    have hIL := fun wr hst => ih.yes hD1 hq wr (g := g) hst hs hr2 hp2
    rcases sign_tri t1 with ⟨t2, rfl, hsg⟩ | ⟨t2, rfl, hsg⟩ | ⟨h124, h38, hsg⟩

    · cases hq2 : parse d t2 with
      | none => exact (node_two_y6nn d x (124 :: t2) t2 D (by omega) (by omega) g s p _ w h hs hr hp (by omega) h42 h33 h40 hIL (tk_same 124 t2) (fun p1 h1 _ => next_place p1 h1) (fun wr p2 hst h1 h2 => ih.no hD1 hq2 wr hst hs h1 h2)).mono fun _ _ hh => nd_none (show (parse d r).bind _ = _ by rw [hq]; show pairB x (signB (124 :: t2)).1 (parse d (signB (124 :: t2)).2) = _; rw [hsg]; show pairB x 6 (parse d t2) = _; rw [hq2]; rfl) hh
      | some pr2 =>
        obtain ⟨y, t3⟩ := pr2
        have hy := (parse_spec d t2 y t3 hq2).2.2
        rcases close_tri t3 with ⟨t4, rfl, hc⟩ | ⟨h41, hc⟩
        · exact (node_two_y6yy d x (124 :: t2) t2 hx y (41 :: t4) t4 hy D (by omega) (by omega) g s p _ w h hs hr hp (by omega) h42 h33 h40 hIL (tk_same 124 t2) (fun p1 h1 _ => next_place p1 h1) (fun wr p2 hst h1 h2 => ih.yes hD1 hq2 wr hst hs h1 h2) (tk_same 41 t4) (fun p3 h1 _ => next_place p3 h1)).mono fun _ _ hh => nd_some (show (parse d r).bind _ = _ by rw [hq]; show pairB x (signB (124 :: t2)).1 (parse d (signB (124 :: t2)).2) = _; rw [hsg]; show pairB x 6 (parse d t2) = _; rw [hq2]; rfl) hh
        · exact (node_two_y6yn d x (124 :: t2) t2 y t3 D (by omega) (by omega) g s p _ w h hs hr hp (by omega) h42 h33 h40 hIL (tk_same 124 t2) (fun p1 h1 _ => next_place p1 h1) (fun wr p2 hst h1 h2 => ih.yes hD1 hq2 wr hst hs h1 h2) h41).mono fun _ _ hh => nd_none (show (parse d r).bind _ = _ by rw [hq]; show pairB x (signB (124 :: t2)).1 (parse d (signB (124 :: t2)).2) = _; rw [hsg]; show pairB x 6 (parse d t2) = _; rw [hq2]; show (closeB t3).map _ = _; rw [hc]; rfl) hh

    · cases hq2 : parse d t2 with
      | none => exact (node_two_y7nn d x (38 :: t2) t2 D (by omega) (by omega) g s p _ w h hs hr hp (by omega) h42 h33 h40 hIL (tk_other t2 (by decide)) (tk_same 38 t2) (fun p1 h1 _ => next_place p1 h1) (fun wr p2 hst h1 h2 => ih.no hD1 hq2 wr hst hs h1 h2)).mono fun _ _ hh => nd_none (show (parse d r).bind _ = _ by rw [hq]; show pairB x (signB (38 :: t2)).1 (parse d (signB (38 :: t2)).2) = _; rw [hsg]; show pairB x 7 (parse d t2) = _; rw [hq2]; rfl) hh
      | some pr2 =>
        obtain ⟨y, t3⟩ := pr2
        have hy := (parse_spec d t2 y t3 hq2).2.2
        rcases close_tri t3 with ⟨t4, rfl, hc⟩ | ⟨h41, hc⟩
        · exact (node_two_y7yy d x (38 :: t2) t2 hx y (41 :: t4) t4 hy D (by omega) (by omega) g s p _ w h hs hr hp (by omega) h42 h33 h40 hIL (tk_other t2 (by decide)) (tk_same 38 t2) (fun p1 h1 _ => next_place p1 h1) (fun wr p2 hst h1 h2 => ih.yes hD1 hq2 wr hst hs h1 h2) (tk_same 41 t4) (fun p3 h1 _ => next_place p3 h1)).mono fun _ _ hh => nd_some (show (parse d r).bind _ = _ by rw [hq]; show pairB x (signB (38 :: t2)).1 (parse d (signB (38 :: t2)).2) = _; rw [hsg]; show pairB x 7 (parse d t2) = _; rw [hq2]; rfl) hh
        · exact (node_two_y7yn d x (38 :: t2) t2 y t3 D (by omega) (by omega) g s p _ w h hs hr hp (by omega) h42 h33 h40 hIL (tk_other t2 (by decide)) (tk_same 38 t2) (fun p1 h1 _ => next_place p1 h1) (fun wr p2 hst h1 h2 => ih.yes hD1 hq2 wr hst hs h1 h2) h41).mono fun _ _ hh => nd_none (show (parse d r).bind _ = _ by rw [hq]; show pairB x (signB (38 :: t2)).1 (parse d (signB (38 :: t2)).2) = _; rw [hsg]; show pairB x 7 (parse d t2) = _; rw [hq2]; show (closeB t3).map _ = _; rw [hc]; rfl) hh

    · cases hq2 : parse d t1 with
      | none => exact (node_two_y5nn d x t1 t1 D (by omega) (by omega) g s p _ w h hs hr hp (by omega) h42 h33 h40 hIL h124 h38 (fun p1 h1 h2 => ⟨h1, h2⟩) (fun wr p2 hst h1 h2 => ih.no hD1 hq2 wr hst hs h1 h2)).mono fun _ _ hh => nd_none (show (parse d r).bind _ = _ by rw [hq]; show pairB x (signB t1).1 (parse d (signB t1).2) = _; rw [hsg]; show pairB x 5 (parse d t1) = _; rw [hq2]; rfl) hh
      | some pr2 =>
        obtain ⟨y, t3⟩ := pr2
        have hy := (parse_spec d t1 y t3 hq2).2.2
        rcases close_tri t3 with ⟨t4, rfl, hc⟩ | ⟨h41, hc⟩
        · exact (node_two_y5yy d x t1 t1 hx y (41 :: t4) t4 hy D (by omega) (by omega) g s p _ w h hs hr hp (by omega) h42 h33 h40 hIL h124 h38 (fun p1 h1 h2 => ⟨h1, h2⟩) (fun wr p2 hst h1 h2 => ih.yes hD1 hq2 wr hst hs h1 h2) (tk_same 41 t4) (fun p3 h1 _ => next_place p3 h1)).mono fun _ _ hh => nd_some (show (parse d r).bind _ = _ by rw [hq]; show pairB x (signB t1).1 (parse d (signB t1).2) = _; rw [hsg]; show pairB x 5 (parse d t1) = _; rw [hq2]; rfl) hh
        · exact (node_two_y5yn d x t1 t1 y t3 D (by omega) (by omega) g s p _ w h hs hr hp (by omega) h42 h33 h40 hIL h124 h38 (fun p1 h1 h2 => ⟨h1, h2⟩) (fun wr p2 hst h1 h2 => ih.yes hD1 hq2 wr hst hs h1 h2) h41).mono fun _ _ hh => nd_none (show (parse d r).bind _ = _ by rw [hq]; show pairB x (signB t1).1 (parse d (signB t1).2) = _; rw [hsg]; show pairB x 5 (parse d t1) = _; rw [hq2]; show (closeB t3).map _ = _; rw [hc]; rfl) hh


theorem ndAt_all : ∀ d, d ≤ 6 → NdAt d
  | 0, _ => fun D g s p bad rest w hD h hs hr hp => by
    have hlf : ∀ wr, St wr g s p true → Calls Try.prog 55 #[.pointer (some ⟨g, 0, none⟩)] wr (LfNo g s p wr) := fun wr h => leaf_no g s p true rest rfl rfl rfl rfl rfl rfl wr h hs hr hp
    cases bad with
    | true => exact (node_leaf_bad_no D (by omega) (by omega) g s p rest w h hs hr hp rfl rfl rfl hlf).mono fun _ _ hh => nd_bad hh
    | false => exact (node_leaf_deep_no D (by omega) (by omega) g s p rest w h hs hr hp (by omega) rfl rfl rfl hlf).mono fun _ _ hh => nd_none rfl hh
  | d + 1, hd6 => fun D g s p bad rest w hD h hs hr hp => by
    have ih := ndAt_all d (by omega)
    have hD1 : D + 1 = 7 - d := by omega
    cases bad with
    | true =>
      have hlf : ∀ wr, St wr g s p true → Calls Try.prog 55 #[.pointer (some ⟨g, 0, none⟩)] wr (LfNo g s p wr) := fun wr h => leaf_no g s p true rest rfl rfl rfl rfl rfl rfl wr h hs hr hp
      exact (node_leaf_bad_no D (by omega) (by omega) g s p rest w h hs hr hp rfl rfl rfl hlf).mono fun _ _ hh => nd_bad hh
    | false =>
      cases rest with
      | nil => exact (node_leaf_fine_no D (by omega) (by omega) g s p [] w h hs hr hp (by omega) rfl rfl rfl (fun wr h => leaf_no g s p false [] rfl rfl rfl rfl rfl rfl wr h hs hr hp)).mono fun _ _ hh => nd_none rfl hh
      | cons c r =>
        obtain ⟨hr2, hp2⟩ := next_place p hr
        by_cases n48 : c = 48
        · subst n48; exact (node_leaf_fine_yes d D (by omega) (by omega) g s p _ w h hs hr hp (by omega) (tk_other r (by decide)) (tk_other r (by decide)) (tk_other r (by decide)) 1 ⟨#[]⟩ (fun wr h => leafS_48 g s p false _ rfl (tk_same 48 r) wr h hs hr hp) r hr2 hp2).mono fun _ _ hh => nd_some rfl hh
        by_cases n49 : c = 49
        · subst n49; exact (node_leaf_fine_yes d D (by omega) (by omega) g s p _ w h hs hr hp (by omega) (tk_other r (by decide)) (tk_other r (by decide)) (tk_other r (by decide)) 2 ⟨#[]⟩ (fun wr h => leafS_49 g s p false _ rfl (tk_other r (by decide)) (tk_same 49 r) wr h hs hr hp) r hr2 hp2).mono fun _ _ hh => nd_some rfl hh
        by_cases n46 : c = 46
        · subst n46; exact (node_leaf_fine_yes d D (by omega) (by omega) g s p _ w h hs hr hp (by omega) (tk_other r (by decide)) (tk_other r (by decide)) (tk_other r (by decide)) 4 ⟨#[]⟩ (fun wr h => leafS_46 g s p false _ rfl (tk_other r (by decide)) (tk_other r (by decide)) (tk_same 46 r) wr h hs hr hp) r hr2 hp2).mono fun _ _ hh => nd_some rfl hh
        by_cases n42 : c = 42
        · subst n42
          cases hq : parse d r with
          | some pr => exact (node_42_yes d pr.1 pr.2 (parse_spec d r pr.1 pr.2 hq).2.2 D (by omega) (by omega) g s p _ w h hs hr hp (by omega) (tk_same 42 r) (fun wr hst => ih.yes hD1 hq wr hst hs hr2 hp2)).mono fun _ _ hh => nd_some (show (parse d r).map _ = _ by rw [hq]; rfl) hh
          | none => exact (node_42_no D (by omega) (by omega) g s p _ w h hs hr hp (by omega) (tk_same 42 r) (fun wr hst => ih.no hD1 hq wr hst hs hr2 hp2)).mono fun _ _ hh => nd_none (show (parse d r).map _ = _ by rw [hq]; rfl) hh
        by_cases n33 : c = 33
        · subst n33
          cases hq : parse d r with
          | some pr => exact (node_33_yes d pr.1 pr.2 (parse_spec d r pr.1 pr.2 hq).2.2 D (by omega) (by omega) g s p _ w h hs hr hp (by omega) (tk_other r (by decide)) (tk_same 33 r) (fun wr hst => ih.yes hD1 hq wr hst hs hr2 hp2)).mono fun _ _ hh => nd_some (show (parse d r).map _ = _ by rw [hq]; rfl) hh
          | none => exact (node_33_no D (by omega) (by omega) g s p _ w h hs hr hp (by omega) (tk_other r (by decide)) (tk_same 33 r) (fun wr hst => ih.no hD1 hq wr hst hs hr2 hp2)).mono fun _ _ hh => nd_none (show (parse d r).map _ = _ by rw [hq]; rfl) hh
        by_cases n40 : c = 40
        · subst n40
          exact ndAt_two ih D (by omega) (by omega) g s p r w h hs hr hp
        have hpa : parse (d + 1) (c :: r) = if isLetter c then some ((3, ⟨#[c]⟩, .nil), r) else none := by
          show (if c = 48 then _ else _) = _
          rw [if_neg n48, if_neg n49, if_neg n46, if_neg n42, if_neg n33, if_neg n40]
          rfl
        cases hL : isLetter c with
        | true =>
          rcases letter_three hL with rfl | rfl | rfl
          · exact (node_leaf_fine_yes d D (by omega) (by omega) g s p _ w h hs hr hp (by omega) (tk_other r n42) (tk_other r n33) (tk_other r n40) 3 ⟨#[97]⟩ (fun wr h => leafS_97 g s p false _ rfl (tk_other r n48) (tk_other r n49) (tk_other r n46) (tk_same 97 r) wr h hs hr hp) r hr2 hp2).mono fun _ _ hh => nd_some (by rw [hpa, if_pos hL]; rfl) hh
          · exact (node_leaf_fine_yes d D (by omega) (by omega) g s p _ w h hs hr hp (by omega) (tk_other r n42) (tk_other r n33) (tk_other r n40) 3 ⟨#[98]⟩ (fun wr h => leafS_98 g s p false _ rfl (tk_other r n48) (tk_other r n49) (tk_other r n46) (tk_other r (by decide)) (tk_same 98 r) wr h hs hr hp) r hr2 hp2).mono fun _ _ hh => nd_some (by rw [hpa, if_pos hL]; rfl) hh
          · exact (node_leaf_fine_yes d D (by omega) (by omega) g s p _ w h hs hr hp (by omega) (tk_other r n42) (tk_other r n33) (tk_other r n40) 3 ⟨#[99]⟩ (fun wr h => leafS_99 g s p false _ rfl (tk_other r n48) (tk_other r n49) (tk_other r n46) (tk_other r (by decide)) (tk_other r (by decide)) (tk_same 99 r) wr h hs hr hp) r hr2 hp2).mono fun _ _ hh => nd_some (by rw [hpa, if_pos hL]; rfl) hh
        | false =>
          have n97 : ¬ c = 97 := fun e => by subst e; revert hL; decide
          have n98 : ¬ c = 98 := fun e => by subst e; revert hL; decide
          have n99 : ¬ c = 99 := fun e => by subst e; revert hL; decide
          exact (node_leaf_fine_no D (by omega) (by omega) g s p _ w h hs hr hp (by omega) (tk_other r n42) (tk_other r n33) (tk_other r n40) (fun wr h => leaf_no g s p false _ (tk_other r n48) (tk_other r n49) (tk_other r n46) (tk_other r n97) (tk_other r n98) (tk_other r n99) wr h hs hr hp)).mono fun _ _ hh => nd_none (by rw [hpa, if_neg (by rw [hL]; decide)]; rfl) hh
end Go.Proofs.Ytfhghgbiemjddaa
