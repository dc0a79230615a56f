/- Texts of one proof. -/
import Derived.Test.YtppliiingoonlaaGreatDoorxPPZPack6
set_option maxRecDepth 100000
set_option maxHeartbeats 20000000
namespace Go.Proofs.YtppliiingoonlaaGreatDoor
open Go.RowKit
def NdPost (d g : Nat) (s : ByteArray) (bad : Bool) (rest : List UInt8) (w : World) (e : Ending) (w' : World) : Prop :=
  match (if bad then none else parse d rest) with
  | some (x, t) => NdYes d g s x t w e w'
  | none => NdNo g s w e w'
def NdAt (d : Nat) : Prop := ∀ (D : Int) (g : Nat) (s : ByteArray) (p : Nat) (bad : Bool) (rest : List UInt8) (w : World), D = 7 - d -> St w g s p bad -> s.size <= 1048576 -> s.data.toList.drop p = rest -> p <= s.size ->
  Calls Tryz.prog 177 #[.pointer (some ⟨g, 0, none⟩), .int .i64 D] w (NdPost d g s bad rest w)
theorem nd_some {d g : Nat} {s : ByteArray} {rest : List UInt8} {x : Nd} {t : List UInt8} {w w' : World} {e : Ending} (hp : parse d rest = some (x, t)) (h : NdYes d g s x t w e w') : NdPost d g s false rest w e w' := by
  unfold NdPost; rw [if_neg (by decide), hp]; exact h
theorem nd_none {d g : Nat} {s : ByteArray} {rest : List UInt8} {w w' : World} {e : Ending} (hp : parse d rest = none) (h : NdNo g s w e w') : NdPost d g s false rest w e w' := by
  unfold NdPost; rw [if_neg (by decide), hp]; exact h
theorem nd_bad {d g : Nat} {s : ByteArray} {rest : List UInt8} {w w' : World} {e : Ending} (h : NdNo g s w e w') : NdPost d g s true rest w e w' := by
  unfold NdPost; rw [if_pos rfl]; exact h
theorem NdAt.yes {d : Nat} (h : NdAt d) {D : Int} (hD : D = 7 - d) {g : Nat} {s : ByteArray} {p : Nat} {rest : List UInt8} {x : Nd} {t : List UInt8} (hp : parse d rest = some (x, t)) (w : World) (hst : St w g s p false) (hs : s.size <= 1048576) (hr : s.data.toList.drop p = rest) (hps : p <= s.size) :
    Calls Tryz.prog 177 #[.pointer (some ⟨g, 0, none⟩), .int .i64 D] w (NdYes d g s x t w) :=
  (h D g s p false rest w hD hst hs hr hps).mono λ e w' hh => by unfold NdPost at hh; rw [if_neg (by decide), hp] at hh; exact hh
theorem NdAt.no {d : Nat} (h : NdAt d) {D : Int} (hD : D = 7 - d) {g : Nat} {s : ByteArray} {p : Nat} {rest : List UInt8} (hp : parse d rest = none) (w : World) (hst : St w g s p false) (hs : s.size <= 1048576) (hr : s.data.toList.drop p = rest) (hps : p <= s.size) :
    Calls Tryz.prog 177 #[.pointer (some ⟨g, 0, none⟩), .int .i64 D] w (NdNo g s w) :=
  (h D g s p false rest w hD hst hs hr hps).mono λ e w' hh => by unfold NdPost at hh; rw [if_neg (by decide), hp] at hh; exact hh
theorem NdAt.bad {d : Nat} (h : NdAt d) {D : Int} (hD : D = 7 - d) {g : Nat} {s : ByteArray} {p : Nat} (w : World) (hst : St w g s p true) (hs : s.size <= 1048576) (hps : p <= s.size) :
    Calls Tryz.prog 177 #[.pointer (some ⟨g, 0, none⟩), .int .i64 D] w (NdNo g s w) :=
  (h D g s p true _ w hD hst hs rfl hps).mono λ e w' hh => by unfold NdPost at hh; rw [if_pos rfl] at hh; exact hh
theorem tk_same (c : UInt8) (r : List UInt8) : tk false c (c :: r) = true := by simp [tk]
theorem tk_other {b c : UInt8} (r : List UInt8) (h : ¬ b = c) : tk false c (b :: r) = false := by simp [tk, h]
theorem sign_tri (t : List UInt8) : (∃ r, t = 124 :: r /\ signB t = (6, r)) \/ (∃ r, t = 38 :: r /\ signB t = (7, r)) \/ (tk false 124 t = false /\ tk false 38 t = false /\ signB t = (5, t)) := by
  cases t with
  | nil => exact .inr (.inr ⟨rfl, rfl, rfl⟩)
  | cons c r =>
    by_cases h1 : c = 124
    . subst h1; exact .inl ⟨r, rfl, rfl⟩
    . by_cases h2 : c = 38
      . subst h2; exact .inr (.inl ⟨r, rfl, rfl⟩)
      . exact .inr (.inr ⟨tk_other r h1, tk_other r h2, by rw [signB_cons, if_neg h1, if_neg h2]⟩)
theorem letter_three {c : UInt8} (h : isLetter c = true) : c = 97 \/ c = 98 \/ c = 99 := by
  obtain ⟨-, h1, h2⟩ := letIdx_yes h
  have : c.toNat = 97 \/ c.toNat = 98 \/ c.toNat = 99 := by omega
  rcases this with e | e | e
  . exact .inl (UInt8.toNat_inj.1 (by rw [e]; rfl))
  . exact .inr (.inl (UInt8.toNat_inj.1 (by rw [e]; rfl)))
  . exact .inr (.inr (UInt8.toNat_inj.1 (by rw [e]; rfl)))
theorem next_place {s : ByteArray} {c : UInt8} {t : List UInt8} (p : Nat) (h : s.data.toList.drop p = c :: t) : s.data.toList.drop (p + 1) = t /\ p + 1 <= s.size := ⟨(at_place h).2.2, (at_place h).1⟩
theorem close_tri (t : List UInt8) : (∃ r, t = 41 :: r /\ closeB t = some r) \/ (tk false 41 t = false /\ closeB t = none) := by
  cases t with
  | nil => exact .inr ⟨rfl, rfl⟩
  | cons c r =>
    by_cases h1 : c = 41
    . subst h1; exact .inl ⟨r, rfl, rfl⟩
    . exact .inr ⟨tk_other r h1, by rw [closeB_cons, if_neg h1]⟩
theorem ndAt_two {d : Nat} (ih : NdAt d) (D : Int) (hd : d <= 5) (hD : D = 6 - d) (g : Nat) (s : ByteArray) (p : Nat) (r : List UInt8) (w : World) (h : St w g s p false) (hs : s.size <= 1048576) (hr : s.data.toList.drop p = 40 :: r) (hp : p <= s.size) :
    Calls Tryz.prog 177 #[.pointer (some ⟨g, 0, none⟩), .int .i64 D] w (NdPost (d + 1) g s false (40 :: r) w) := by
  have h42 : tk false 42 (40 :: r) = false := tk_other r (by decide)
  have h33 : tk false 33 (40 :: r) = false := tk_other r (by decide)
  have h40 := tk_same 40 r
  have hD1 : D + 1 = 7 - d := by omega
  obtain ⟨hr2, hp2⟩ := next_place p hr
  cases hq : parse d r with
  | none => exact (node_two_n5nn D (by omega) (by omega) g s p _ w h hs hr hp (by omega) h42 h33 h40 (λ wr hst => ih.no hD1 hq wr hst hs hr2 hp2) (λ wr p2 hst hps => ih.bad hD1 wr hst hs hps)).mono λ _ _ hh => nd_none (show (parse d r).bind _ = _ by rw [hq]; rfl) hh
  | some pr =>
    obtain ⟨x, t1⟩ := pr
    have hx := (parse_spec d r x t1 hq).2.2
    have hIL := λ wr hst => ih.yes hD1 hq wr (g := g) hst hs hr2 hp2
    rcases sign_tri t1 with ⟨t2, rfl, hsg⟩ | ⟨t2, rfl, hsg⟩ | ⟨h124, h38, hsg⟩
    . cases hq2 : parse d t2 with
      | none => exact (node_two_y6nn d x (124 :: t2) t2 D (by omega) (by omega) g s p _ w h hs hr hp (by omega) h42 h33 h40 hIL (tk_same 124 t2) (λ p1 h1 _ => next_place p1 h1) (λ wr p2 hst h1 h2 => ih.no hD1 hq2 wr hst hs h1 h2)).mono λ _ _ hh => nd_none (show (parse d r).bind _ = _ by rw [hq]; show pairB x (signB (124 :: t2)).1 (parse d (signB (124 :: t2)).2) = _; rw [hsg]; show pairB x 6 (parse d t2) = _; rw [hq2]; rfl) hh
      | some pr2 =>
        obtain ⟨y, t3⟩ := pr2
        have hy := (parse_spec d t2 y t3 hq2).2.2
        rcases close_tri t3 with ⟨t4, rfl, hc⟩ | ⟨h41, hc⟩
        . exact (node_two_y6yy d x (124 :: t2) t2 hx y (41 :: t4) t4 hy D (by omega) (by omega) g s p _ w h hs hr hp (by omega) h42 h33 h40 hIL (tk_same 124 t2) (λ p1 h1 _ => next_place p1 h1) (λ wr p2 hst h1 h2 => ih.yes hD1 hq2 wr hst hs h1 h2) (tk_same 41 t4) (λ p3 h1 _ => next_place p3 h1)).mono λ _ _ hh => nd_some (show (parse d r).bind _ = _ by rw [hq]; show pairB x (signB (124 :: t2)).1 (parse d (signB (124 :: t2)).2) = _; rw [hsg]; show pairB x 6 (parse d t2) = _; rw [hq2]; rfl) hh
        . exact (node_two_y6yn d x (124 :: t2) t2 y t3 D (by omega) (by omega) g s p _ w h hs hr hp (by omega) h42 h33 h40 hIL (tk_same 124 t2) (λ p1 h1 _ => next_place p1 h1) (λ wr p2 hst h1 h2 => ih.yes hD1 hq2 wr hst hs h1 h2) h41).mono λ _ _ hh => nd_none (show (parse d r).bind _ = _ by rw [hq]; show pairB x (signB (124 :: t2)).1 (parse d (signB (124 :: t2)).2) = _; rw [hsg]; show pairB x 6 (parse d t2) = _; rw [hq2]; show (closeB t3).map _ = _; rw [hc]; rfl) hh
    . cases hq2 : parse d t2 with
      | none => exact (node_two_y7nn d x (38 :: t2) t2 D (by omega) (by omega) g s p _ w h hs hr hp (by omega) h42 h33 h40 hIL (tk_other t2 (by decide)) (tk_same 38 t2) (λ p1 h1 _ => next_place p1 h1) (λ wr p2 hst h1 h2 => ih.no hD1 hq2 wr hst hs h1 h2)).mono λ _ _ hh => nd_none (show (parse d r).bind _ = _ by rw [hq]; show pairB x (signB (38 :: t2)).1 (parse d (signB (38 :: t2)).2) = _; rw [hsg]; show pairB x 7 (parse d t2) = _; rw [hq2]; rfl) hh
      | some pr2 =>
        obtain ⟨y, t3⟩ := pr2
        have hy := (parse_spec d t2 y t3 hq2).2.2
        rcases close_tri t3 with ⟨t4, rfl, hc⟩ | ⟨h41, hc⟩
        . exact (node_two_y7yy d x (38 :: t2) t2 hx y (41 :: t4) t4 hy D (by omega) (by omega) g s p _ w h hs hr hp (by omega) h42 h33 h40 hIL (tk_other t2 (by decide)) (tk_same 38 t2) (λ p1 h1 _ => next_place p1 h1) (λ wr p2 hst h1 h2 => ih.yes hD1 hq2 wr hst hs h1 h2) (tk_same 41 t4) (λ p3 h1 _ => next_place p3 h1)).mono λ _ _ hh => nd_some (show (parse d r).bind _ = _ by rw [hq]; show pairB x (signB (38 :: t2)).1 (parse d (signB (38 :: t2)).2) = _; rw [hsg]; show pairB x 7 (parse d t2) = _; rw [hq2]; rfl) hh
        . exact (node_two_y7yn d x (38 :: t2) t2 y t3 D (by omega) (by omega) g s p _ w h hs hr hp (by omega) h42 h33 h40 hIL (tk_other t2 (by decide)) (tk_same 38 t2) (λ p1 h1 _ => next_place p1 h1) (λ wr p2 hst h1 h2 => ih.yes hD1 hq2 wr hst hs h1 h2) h41).mono λ _ _ hh => nd_none (show (parse d r).bind _ = _ by rw [hq]; show pairB x (signB (38 :: t2)).1 (parse d (signB (38 :: t2)).2) = _; rw [hsg]; show pairB x 7 (parse d t2) = _; rw [hq2]; show (closeB t3).map _ = _; rw [hc]; rfl) hh
    . cases hq2 : parse d t1 with
      | none => exact (node_two_y5nn d x t1 t1 D (by omega) (by omega) g s p _ w h hs hr hp (by omega) h42 h33 h40 hIL h124 h38 (λ p1 h1 h2 => ⟨h1, h2⟩) (λ wr p2 hst h1 h2 => ih.no hD1 hq2 wr hst hs h1 h2)).mono λ _ _ hh => nd_none (show (parse d r).bind _ = _ by rw [hq]; show pairB x (signB t1).1 (parse d (signB t1).2) = _; rw [hsg]; show pairB x 5 (parse d t1) = _; rw [hq2]; rfl) hh
      | some pr2 =>
        obtain ⟨y, t3⟩ := pr2
        have hy := (parse_spec d t1 y t3 hq2).2.2
        rcases close_tri t3 with ⟨t4, rfl, hc⟩ | ⟨h41, hc⟩
        . exact (node_two_y5yy d x t1 t1 hx y (41 :: t4) t4 hy D (by omega) (by omega) g s p _ w h hs hr hp (by omega) h42 h33 h40 hIL h124 h38 (λ p1 h1 h2 => ⟨h1, h2⟩) (λ wr p2 hst h1 h2 => ih.yes hD1 hq2 wr hst hs h1 h2) (tk_same 41 t4) (λ p3 h1 _ => next_place p3 h1)).mono λ _ _ hh => nd_some (show (parse d r).bind _ = _ by rw [hq]; show pairB x (signB t1).1 (parse d (signB t1).2) = _; rw [hsg]; show pairB x 5 (parse d t1) = _; rw [hq2]; rfl) hh
        . exact (node_two_y5yn d x t1 t1 y t3 D (by omega) (by omega) g s p _ w h hs hr hp (by omega) h42 h33 h40 hIL h124 h38 (λ p1 h1 h2 => ⟨h1, h2⟩) (λ wr p2 hst h1 h2 => ih.yes hD1 hq2 wr hst hs h1 h2) h41).mono λ _ _ hh => nd_none (show (parse d r).bind _ = _ by rw [hq]; show pairB x (signB t1).1 (parse d (signB t1).2) = _; rw [hsg]; show pairB x 5 (parse d t1) = _; rw [hq2]; show (closeB t3).map _ = _; rw [hc]; rfl) hh
theorem ndAt_all : ∀ d, d <= 6 -> NdAt d
  | 0, _ => λ D g s p bad rest w hD h hs hr hp => by
    have hlf : ∀ wr, St wr g s p true -> Calls Tryz.prog 217 #[.pointer (some ⟨g, 0, none⟩)] wr (LfNo g s p wr) := λ wr h => leaf_no g s p true rest rfl rfl rfl rfl rfl rfl wr h hs hr hp
    cases bad with
    | true => exact (node_leaf_bad_no D (by omega) (by omega) g s p rest w h hs hr hp rfl rfl rfl hlf).mono λ _ _ hh => nd_bad hh
    | false => exact (node_leaf_deep_no D (by omega) (by omega) g s p rest w h hs hr hp (by omega) rfl rfl rfl hlf).mono λ _ _ hh => nd_none rfl hh
  | d + 1, hd6 => λ D g s p bad rest w hD h hs hr hp => by
    have ih := ndAt_all d (by omega)
    have hD1 : D + 1 = 7 - d := by omega
    cases bad with
    | true =>
      have hlf : ∀ wr, St wr g s p true -> Calls Tryz.prog 217 #[.pointer (some ⟨g, 0, none⟩)] wr (LfNo g s p wr) := λ wr h => leaf_no g s p true rest rfl rfl rfl rfl rfl rfl wr h hs hr hp
      exact (node_leaf_bad_no D (by omega) (by omega) g s p rest w h hs hr hp rfl rfl rfl hlf).mono λ _ _ hh => nd_bad hh
    | false =>
      cases rest with
      | nil => exact (node_leaf_fine_no D (by omega) (by omega) g s p [] w h hs hr hp (by omega) rfl rfl rfl (λ wr h => leaf_no g s p false [] rfl rfl rfl rfl rfl rfl wr h hs hr hp)).mono λ _ _ hh => nd_none rfl hh
      | cons c r =>
        obtain ⟨hr2, hp2⟩ := next_place p hr
        by_cases n48 : c = 48
        . subst n48; exact (node_leaf_fine_yes d D (by omega) (by omega) g s p _ w h hs hr hp (by omega) (tk_other r (by decide)) (tk_other r (by decide)) (tk_other r (by decide)) 1 ⟨#[]⟩ (λ wr h => leafS_48 g s p false _ rfl (tk_same 48 r) wr h hs hr hp) r hr2 hp2).mono λ _ _ hh => nd_some rfl hh
        by_cases n49 : c = 49
        . subst n49; exact (node_leaf_fine_yes d D (by omega) (by omega) g s p _ w h hs hr hp (by omega) (tk_other r (by decide)) (tk_other r (by decide)) (tk_other r (by decide)) 2 ⟨#[]⟩ (λ wr h => leafS_49 g s p false _ rfl (tk_other r (by decide)) (tk_same 49 r) wr h hs hr hp) r hr2 hp2).mono λ _ _ hh => nd_some rfl hh
        by_cases n46 : c = 46
        . subst n46; exact (node_leaf_fine_yes d D (by omega) (by omega) g s p _ w h hs hr hp (by omega) (tk_other r (by decide)) (tk_other r (by decide)) (tk_other r (by decide)) 4 ⟨#[]⟩ (λ wr h => leafS_46 g s p false _ rfl (tk_other r (by decide)) (tk_other r (by decide)) (tk_same 46 r) wr h hs hr hp) r hr2 hp2).mono λ _ _ hh => nd_some rfl hh
        by_cases n42 : c = 42
        . subst n42
          cases hq : parse d r with
          | some pr => exact (node_42_yes d pr.1 pr.2 (parse_spec d r pr.1 pr.2 hq).2.2 D (by omega) (by omega) g s p _ w h hs hr hp (by omega) (tk_same 42 r) (λ wr hst => ih.yes hD1 hq wr hst hs hr2 hp2)).mono λ _ _ hh => nd_some (show (parse d r).map _ = _ by rw [hq]; rfl) hh
          | none => exact (node_42_no D (by omega) (by omega) g s p _ w h hs hr hp (by omega) (tk_same 42 r) (λ wr hst => ih.no hD1 hq wr hst hs hr2 hp2)).mono λ _ _ hh => nd_none (show (parse d r).map _ = _ by rw [hq]; rfl) hh
        by_cases n33 : c = 33
        . subst n33
          cases hq : parse d r with
          | some pr => exact (node_33_yes d pr.1 pr.2 (parse_spec d r pr.1 pr.2 hq).2.2 D (by omega) (by omega) g s p _ w h hs hr hp (by omega) (tk_other r (by decide)) (tk_same 33 r) (λ wr hst => ih.yes hD1 hq wr hst hs hr2 hp2)).mono λ _ _ hh => nd_some (show (parse d r).map _ = _ by rw [hq]; rfl) hh
          | none => exact (node_33_no D (by omega) (by omega) g s p _ w h hs hr hp (by omega) (tk_other r (by decide)) (tk_same 33 r) (λ wr hst => ih.no hD1 hq wr hst hs hr2 hp2)).mono λ _ _ hh => nd_none (show (parse d r).map _ = _ by rw [hq]; rfl) hh
        by_cases n40 : c = 40
        . subst n40
          exact ndAt_two ih D (by omega) (by omega) g s p r w h hs hr hp
        have hpa : parse (d + 1) (c :: r) = if isLetter c then some ((3, ⟨#[c]⟩, .nil), r) else none := by
          show (if c = 48 then _ else _) = _
          rw [if_neg n48, if_neg n49, if_neg n46, if_neg n42, if_neg n33, if_neg n40]
          rfl
        cases hL : isLetter c with
        | true =>
          rcases letter_three hL with rfl | rfl | rfl
          . exact (node_leaf_fine_yes d D (by omega) (by omega) g s p _ w h hs hr hp (by omega) (tk_other r n42) (tk_other r n33) (tk_other r n40) 3 ⟨#[97]⟩ (λ wr h => leafS_97 g s p false _ rfl (tk_other r n48) (tk_other r n49) (tk_other r n46) (tk_same 97 r) wr h hs hr hp) r hr2 hp2).mono λ _ _ hh => nd_some (by rw [hpa, if_pos hL]; rfl) hh
          . exact (node_leaf_fine_yes d D (by omega) (by omega) g s p _ w h hs hr hp (by omega) (tk_other r n42) (tk_other r n33) (tk_other r n40) 3 ⟨#[98]⟩ (λ wr h => leafS_98 g s p false _ rfl (tk_other r n48) (tk_other r n49) (tk_other r n46) (tk_other r (by decide)) (tk_same 98 r) wr h hs hr hp) r hr2 hp2).mono λ _ _ hh => nd_some (by rw [hpa, if_pos hL]; rfl) hh
          . exact (node_leaf_fine_yes d D (by omega) (by omega) g s p _ w h hs hr hp (by omega) (tk_other r n42) (tk_other r n33) (tk_other r n40) 3 ⟨#[99]⟩ (λ wr h => leafS_99 g s p false _ rfl (tk_other r n48) (tk_other r n49) (tk_other r n46) (tk_other r (by decide)) (tk_other r (by decide)) (tk_same 99 r) wr h hs hr hp) r hr2 hp2).mono λ _ _ hh => nd_some (by rw [hpa, if_pos hL]; rfl) hh
        | false =>
          have n97 : ¬ c = 97 := λ e => by subst e; revert hL; decide
          have n98 : ¬ c = 98 := λ e => by subst e; revert hL; decide
          have n99 : ¬ c = 99 := λ e => by subst e; revert hL; decide
          exact (node_leaf_fine_no D (by omega) (by omega) g s p _ w h hs hr hp (by omega) (tk_other r n42) (tk_other r n33) (tk_other r n40) (λ wr h => leaf_no g s p false _ (tk_other r n48) (tk_other r n49) (tk_other r n46) (tk_other r n97) (tk_other r n98) (tk_other r n99) wr h hs hr hp)).mono λ _ _ hh => nd_none (by rw [hpa, if_neg (by rw [hL]; decide)]; rfl) hh
theorem readTwo_no1 {d : Nat} (h : RdAt d) (s : ByteArray) (w : World) (hp : parse d s.data.toList = none) (hs : s.size <= 1048576) :
    Calls Tryz.prog 238 #[.string s, .int .i64 d] w (RdNo w) := by
  have HI := Lib.hid (λ w => h.no hp w hs)
  clear h hp hs
  go_enter Tryz.func238, Tryz.ntmps238
  go_wp2_with fail
  refine (HI.out _).mono ?_
  rintro e w1 ⟨rfl, hb⟩
  have hb1 : Below (w.heap.size + 1) (w.alloc (.cells #[.int .i64 0, .string ⟨#[]⟩, .slice none 0 0] 26)) w1 := by simpa using hb
  have hz := hb1.size
  rw [World.size_alloc] at hz
  clear hb
  obtain ⟨W2, hW2⟩ : ∃ W2, W2 = w1.alloc (.cells #[.int .i64 0, .string ⟨#[]⟩, .slice none 0 0] 26) := ⟨_, rfl⟩
  have hb2 : Below (w.heap.size + 1) (w.alloc (.cells #[.int .i64 0, .string ⟨#[]⟩, .slice none 0 0] 26)) W2 := by rw [hW2]; exact hb1.alloc hz _
  obtain ⟨hh, b0, b1, b2, f0, f1, f2⟩ := box_kept hb2
  have HF := Lib.hid (put3 (k := .int .i64 0) (l := .string ⟨#[]⟩) (u := .slice none 0 0) b0 b1 b2)
  have HB := Lib.hid (((Below.refl w.heap.size w).alloc (Nat.le_refl _) (.cells #[.int .i64 0, .string ⟨#[]⟩, .slice none 0 0] 26)).trans (hb2.mono (Nat.le_succ _)))
  rw [hW2] at b0 b1 b2 f0 f1 f2
  have HW2 := Lib.hid hW2
  clear hh hb2 hW2
  go_wp2_with fail
  rw [<- HW2.out]
  obtain ⟨⟨c0, c1, c2⟩, _, _, hB⟩ := HF.out
  exact bodyPost_ret (v := .tuple #[.agg #[.int .i64 0, .string ⟨#[]⟩, .slice none 0 0], .string ⟨#[]⟩, .bool false]) (by simp [results, Tryz.results238, go_sem, c0, c1, c2]) rfl ⟨rfl, hB _ _ HB.out (Nat.le_refl _)⟩
theorem length_le {d : Nat} {s : List UInt8} {x : Nd} {t : List UInt8} (h : parse d s = some (x, t)) : t.length <= s.length := by
  have := (parse_spec d s x t h).1
  rw [this]
  simp
theorem signB_len (t : List UInt8) : (signB t).2.length <= t.length := by
  have := congrArg List.length (signB_text t)
  rw [List.length_append] at this
  omega
theorem size_of {s : ByteArray} {l : List UInt8} (h : s.data.toList = l) : s.size = l.length := by
  rw [<- h]
  simp
theorem readSign_at {rs : ByteArray} {t1 : List UInt8} (hr : rs.data.toList = t1) (w : World) (hs : rs.size <= 9223372036854775807) :
    Calls Tryz.prog 242 #[.string rs] w λ e w' => (∃ rs2, e = .returned (.tuple #[.int .i64 (signB t1).1, .string rs2]) /\ rs2.data.toList = (signB t1).2) /\ Below w.heap.size w w' := by
  subst hr
  exact readSign_any rs w hs
theorem readTwo_no2 {d : Nat} (h : RdAt d) (s : ByteArray) (x : Nd) (t1 : List UInt8) (w : World) (hp : parse d s.data.toList = some (x, t1)) (hs : s.size <= 1048576) (hq : parse d (signB t1).2 = none) :
    Calls Tryz.prog 238 #[.string s, .int .i64 d] w (RdNo w) := by
  have HI := Lib.hid (λ w => h.yes hp w hs)
  have HLX := Lib.hid (parse_spec d _ x t1 hp).2.2
  have hlen := length_le hp
  have hlen2 := signB_len t1
  have HSG := Lib.hid (λ (rs : ByteArray) (hr : rs.data.toList = t1) w => readSign_at hr w (by have := size_of hr; simp at hlen; have e : s.data.size = s.size := rfl; omega))
  have HJ := Lib.hid (λ (rs : ByteArray) (hr : rs.data.toList = (signB t1).2) w => h.no (s := rs) (by rw [hr]; exact hq) w (by have := size_of hr; simp at hlen; have e : s.data.size = s.size := rfl; omega))
  have HHD := Lib.hid h
  clear h hp hs hlen hlen2
  go_enter Tryz.func238, Tryz.ntmps238
  go_wp2_with fail
  refine (HI.out _).mono ?_
  rintro e w1 ⟨u, rs, rfl, hrs, hsl, hb⟩
  have hb1 : Below (w.heap.size + 1) (w.alloc (.cells #[.int .i64 0, .string ⟨#[]⟩, .slice none 0 0] 26)) w1 := by simpa using hb
  obtain ⟨A, c, rfl⟩ := hsl.shape
  have hz := hb1.size
  rw [World.size_alloc] at hz
  have HSL := Lib.hid hsl
  have HRS := Lib.hid hrs
  have HB1 := Lib.hid hb1
  clear hb hsl hb1 hrs
  go_wp2_with fail
  refine (HSG.out rs HRS.out _).mono ?_
  rintro e w2 ⟨⟨rs2, rfl, hrs2⟩, hb2⟩
  have hb12 : Below (w1.heap.size + 1) (w1.alloc (.cells #[.int .i64 x.1, .string x.2.1, .slice A x.2.2.items.length c] 26)) w2 := by simpa using hb2
  have HRS2 := Lib.hid hrs2
  have HB12 := Lib.hid hb12
  have hz12 := hb12.size
  rw [World.size_alloc] at hz12
  clear hb2 hrs2 hb12
  go_wp2_with fail
  refine (HJ.out rs2 HRS2.out _).mono ?_
  rintro e w3 ⟨rfl, hb3⟩
  have hb13 := (((Below.refl w1.heap.size w1).alloc (Nat.le_refl _) (.cells #[.int .i64 x.1, .string x.2.1, .slice A x.2.2.items.length c] 26)).trans (HB12.out.mono (Nat.le_succ _))).trans (hb3.mono (by omega))
  have hb03 : Below (w.heap.size + 1) (w.alloc (.cells #[.int .i64 0, .string ⟨#[]⟩, .slice none 0 0] 26)) w3 := HB1.out.trans (hb13.mono hz)
  have hz3 := hb3.size
  clear hb3 hb13
  obtain ⟨W2, hW2⟩ : ∃ W2, W2 = w3.alloc (.cells #[.int .i64 0, .string ⟨#[]⟩, .slice none 0 0] 26) := ⟨_, rfl⟩
  have hb2 : Below (w.heap.size + 1) (w.alloc (.cells #[.int .i64 0, .string ⟨#[]⟩, .slice none 0 0] 26)) W2 := by rw [hW2]; exact hb03.alloc (by omega) _
  obtain ⟨hh, b0, b1, b2, f0, f1, f2⟩ := box_kept hb2
  have HF := Lib.hid (put3 (k := .int .i64 0) (l := .string ⟨#[]⟩) (u := .slice none 0 0) b0 b1 b2)
  have HB := Lib.hid (((Below.refl w.heap.size w).alloc (Nat.le_refl _) (.cells #[.int .i64 0, .string ⟨#[]⟩, .slice none 0 0] 26)).trans (hb2.mono (Nat.le_succ _)))
  rw [hW2] at b0 b1 b2 f0 f1 f2
  have HW2 := Lib.hid hW2
  clear hh hb2 hW2
  go_wp2_with fail
  rw [<- HW2.out]
  obtain ⟨⟨c0, c1, c2⟩, _, _, hB⟩ := HF.out
  exact bodyPost_ret (v := .tuple #[.agg #[.int .i64 0, .string ⟨#[]⟩, .slice none 0 0], .string ⟨#[]⟩, .bool false]) (by simp [results, Tryz.results238, go_sem, c0, c1, c2]) rfl ⟨rfl, hB _ _ HB.out (Nat.le_refl _)⟩
theorem readTwo_no3 {d : Nat} (h : RdAt d) (s : ByteArray) (x : Nd) (t1 : List UInt8) (w : World) (hp : parse d s.data.toList = some (x, t1)) (hs : s.size <= 1048576) (y : Nd) (t3 : List UInt8) (hq : parse d (signB t1).2 = some (y, t3)) (hcl : closeB t3 = none) :
    Calls Tryz.prog 238 #[.string s, .int .i64 d] w (RdNo w) := by
  have HCL : Hid (Lib.hasPrefix t3 [41] = false) := Lib.hid (by
    cases t3 with
    | nil => rfl
    | cons b r =>
      rw [pref_cons]
      rw [closeB_cons] at hcl
      by_cases hb : b = 41
      . rw [if_pos hb] at hcl; cases hcl
      . exact beq_eq_false_iff_ne.2 (λ e => hb e.symm))
  clear hcl
  have HI := Lib.hid (λ w => h.yes hp w hs)
  have HLX := Lib.hid (parse_spec d _ x t1 hp).2.2
  have hlen := length_le hp
  have hlen2 := signB_len t1
  have HSG := Lib.hid (λ (rs : ByteArray) (hr : rs.data.toList = t1) w => readSign_at hr w (by have := size_of hr; simp at hlen; have e : s.data.size = s.size := rfl; omega))
  have HJ := Lib.hid (λ (rs : ByteArray) (hr : rs.data.toList = (signB t1).2) w => h.yes (s := rs) (by rw [hr]; exact hq) w (by have := size_of hr; simp at hlen; have e : s.data.size = s.size := rfl; omega))
  have HHD := Lib.hid h
  clear h hp hs hlen hlen2
  go_enter Tryz.func238, Tryz.ntmps238
  go_wp2_with fail
  refine (HI.out _).mono ?_
  rintro e w1 ⟨u, rs, rfl, hrs, hsl, hb⟩
  have hb1 : Below (w.heap.size + 1) (w.alloc (.cells #[.int .i64 0, .string ⟨#[]⟩, .slice none 0 0] 26)) w1 := by simpa using hb
  obtain ⟨A, c, rfl⟩ := hsl.shape
  have hz := hb1.size
  rw [World.size_alloc] at hz
  have HSL := Lib.hid hsl
  have HRS := Lib.hid hrs
  have HB1 := Lib.hid hb1
  clear hb hsl hb1 hrs
  go_wp2_with fail
  refine (HSG.out rs HRS.out _).mono ?_
  rintro e w2 ⟨⟨rs2, rfl, hrs2⟩, hb2⟩
  have hb12 : Below (w1.heap.size + 1) (w1.alloc (.cells #[.int .i64 x.1, .string x.2.1, .slice A x.2.2.items.length c] 26)) w2 := by simpa using hb2
  have HRS2 := Lib.hid hrs2
  have HB12 := Lib.hid hb12
  have hz12 := hb12.size
  rw [World.size_alloc] at hz12
  clear hb2 hrs2 hb12
  go_wp2_with fail
  refine (HJ.out rs2 HRS2.out _).mono ?_
  rintro e w3 ⟨u2, rs3, rfl, hrs3, hsl3, hb3⟩
  obtain ⟨A2, c2, rfl⟩ := hsl3.shape
  have hb13 := (((Below.refl w1.heap.size w1).alloc (Nat.le_refl _) (.cells #[.int .i64 x.1, .string x.2.1, .slice A x.2.2.items.length c] 26)).trans (HB12.out.mono (Nat.le_succ _))).trans (hb3.mono (by omega))
  have hb13' : Below (w1.heap.size + 1) (w1.alloc (.cells #[.int .i64 x.1, .string x.2.1, .slice A x.2.2.items.length c] 26)) w3 := HB12.out.trans (hb3.mono hz12)
  have hb03 : Below (w.heap.size + 1) (w.alloc (.cells #[.int .i64 0, .string ⟨#[]⟩, .slice none 0 0] 26)) w3 := HB1.out.trans (hb13.mono hz)
  have hz3 := hb3.size
  have HRS3 := Lib.hid hrs3
  have HPX := Lib.hid (λ w => pref_any rs3 41 false (by rw [HRS3.out]; exact HCL.out) w)
  clear hb3 hb13 hb13' hsl3 hrs3
  go_wp2_with fail
  refine (HPX.out _).mono ?_
  rintro e w4 ⟨rfl, rfl⟩
  obtain ⟨W2, hW2⟩ : ∃ W2, W2 = (w3.alloc (.cells #[.int .i64 y.1, .string y.2.1, .slice A2 y.2.2.items.length c2] 26)) := ⟨_, rfl⟩
  have hb2 : Below (w.heap.size + 1) (w.alloc (.cells #[.int .i64 0, .string ⟨#[]⟩, .slice none 0 0] 26)) W2 := by rw [hW2]; exact hb03.alloc (by omega) _
  obtain ⟨hh, b0, b1, b2, f0, f1, f2⟩ := box_kept hb2
  have HF := Lib.hid (put3 (k := .int .i64 0) (l := .string ⟨#[]⟩) (u := .slice none 0 0) b0 b1 b2)
  have HB := Lib.hid (((Below.refl w.heap.size w).alloc (Nat.le_refl _) (.cells #[.int .i64 0, .string ⟨#[]⟩, .slice none 0 0] 26)).trans (hb2.mono (Nat.le_succ _)))
  rw [hW2] at b0 b1 b2 f0 f1 f2
  have HW2 := Lib.hid hW2
  clear hh hb2 hW2
  go_wp2_with fail
  rw [<- HW2.out]
  obtain ⟨⟨c0, c1, c2⟩, _, _, hB⟩ := HF.out
  exact bodyPost_ret (v := .tuple #[.agg #[.int .i64 0, .string ⟨#[]⟩, .slice none 0 0], .string ⟨#[]⟩, .bool false]) (by simp [results, Tryz.results238, go_sem, c0, c1, c2]) rfl ⟨rfl, hB _ _ HB.out (Nat.le_refl _)⟩
theorem slt_drew {w W : World} {d : Nat} {v : Value} {f : Fr} (h : SlT W d (OwnB w W) v f) : SlT W.drew d (OwnB w W.drew) v f := SlT.mono (w := W) (w' := W.drew) (λ _ _ => rfl) (λ _ h => h) h
theorem two_end {w w3 W3 W5 : World} {Z : Obj} {d g g2 c : Nat} {A A2 : Option Addr} {x y : Nd} {k : Int} {t : TypeId} {x0 x1 x2 : Value} {S1 S2 : Nat -> Prop} (hb5 : Below (w.heap.size + 1) (w.alloc Z) W5) (hz : w.heap.size + 1 <= w3.heap.size) (hz5 : W5.heap.size = W3.heap.size + 1) (hz3 : W3.heap.size = w3.heap.size + 1)
    (hg : W5.heap[w3.heap.size + 1]? = some (.cells #[.int .i64 x.1, .string x.2.1, .slice A x.2.2.items.length g, .int .i64 y.1, .string y.2.1, .slice A2 y.2.2.items.length g2] t (0, 0))) (hl : x.2.1.size <= 1) (hl' : y.2.1.size <= 1)
    (hs : SlT W5 d S1 (.slice A x.2.2.items.length g) x.2.2) (hs' : SlT W5 d S2 (.slice A2 y.2.2.items.length g2) y.2.2)
    (h1 : ∀ h, S1 h -> w.heap.size + 1 <= h /\ h < w3.heap.size) (h2 : ∀ h, S2 h -> w.heap.size + 1 <= h /\ h < w3.heap.size) (hd : ∀ h, S1 h -> ¬ S2 h)
    (b0 : W5.cell? ⟨w.heap.size, 0, none⟩ = some x0) (b1 : W5.cell? ⟨w.heap.size, 1, none⟩ = some x1) (b2 : W5.cell? ⟨w.heap.size, 2, none⟩ = some x2) :
    let W4 := ((W5.setCell ⟨w.heap.size, 0, none⟩ (.int .i64 k)).setCell ⟨w.heap.size, 1, none⟩ (.string ⟨#[]⟩)).setCell ⟨w.heap.size, 2, none⟩ (.slice (some ⟨w3.heap.size + 1, 0, none⟩) 2 c)
    (W4.cell? ⟨w.heap.size, 0, none⟩ = some (.int .i64 k) /\ W4.cell? ⟨w.heap.size, 1, none⟩ = some (.string ⟨#[]⟩) /\ W4.cell? ⟨w.heap.size, 2, none⟩ = some (.slice (some ⟨w3.heap.size + 1, 0, none⟩) 2 c)) /\
      SlT W4 (d + 1) (OwnB w W4) (.slice (some ⟨w3.heap.size + 1, 0, none⟩) 2 c) (two k x y).2.2 /\ Below w.heap.size w W4 := by
  intro W4
  obtain ⟨hc, hsz, hot, hB⟩ := put3 (k := .int .i64 k) (l := .string ⟨#[]⟩) (u := .slice (some ⟨w3.heap.size + 1, 0, none⟩) 2 c) b0 b1 b2
  have hg4 := (hot (w3.heap.size + 1) (by omega)).trans hg
  have hs4 : W4.heap.size = W3.heap.size + 1 := hsz.trans hz5
  have cl := λ j => cell_of_row W4 (w3.heap.size + 1) j _ _ (0, 0) hg4
  exact ⟨hc, slt_two (S1 := S1) (S2 := S2) ⟨by omega, by omega⟩ ⟨_, _, hg4⟩ ⟨(cl 0).trans rfl, (cl 1).trans rfl, (cl 2).trans rfl⟩ ⟨(cl 3).trans rfl, (cl 4).trans rfl, (cl 5).trans rfl⟩ (by omega) (by omega)
    (hs.mono (λ h hh => hot h (by have := h1 h hh; omega)) (λ _ h => h)) (hs'.mono (λ h hh => hot h (by have := h2 h hh; omega)) (λ _ h => h)) (λ h hh => by have := h1 h hh; exact ⟨⟨by omega, by omega⟩, by omega⟩) (λ h hh => by have := h2 h hh; exact ⟨⟨by omega, by omega⟩, by omega⟩) hd,
    hB _ _ (((Below.refl w.heap.size w).alloc (Nat.le_refl _) Z).trans (hb5.mono (Nat.le_succ _))) (Nat.le_refl _)⟩
theorem readTwo_yes {d : Nat} (h : RdAt d) (s : ByteArray) (x : Nd) (t1 : List UInt8) (w : World) (hp : parse d s.data.toList = some (x, t1)) (hs : s.size <= 1048576) (y : Nd) (t3 t4 : List UInt8) (hq : parse d (signB t1).2 = some (y, t3)) (hcl : closeB t3 = some t4) :
    Calls Tryz.prog 238 #[.string s, .int .i64 d] w (RdYes (d + 1) (two (signB t1).1 x y) t4 w) := by
  have HT3 := Lib.hid (closeB_text hcl)
  have HLY := Lib.hid (parse_spec d _ y t3 hq).2.2
  clear hcl
  have HI := Lib.hid (λ w => h.yes hp w hs)
  have HLX := Lib.hid (parse_spec d _ x t1 hp).2.2
  have hlen := length_le hp
  have hlen2 := signB_len t1
  have HSG := Lib.hid (λ (rs : ByteArray) (hr : rs.data.toList = t1) w => readSign_at hr w (by have := size_of hr; simp at hlen; have e : s.data.size = s.size := rfl; omega))
  have HJ := Lib.hid (λ (rs : ByteArray) (hr : rs.data.toList = (signB t1).2) w => h.yes (s := rs) (by rw [hr]; exact hq) w (by have := size_of hr; simp at hlen; have e : s.data.size = s.size := rfl; omega))
  have HHD := Lib.hid h
  clear h hp hs hlen hlen2
  go_enter Tryz.func238, Tryz.ntmps238
  go_wp2_with fail
  refine (HI.out _).mono ?_
  rintro e w1 ⟨u, rs, rfl, hrs, hsl, hb⟩
  have hb1 : Below (w.heap.size + 1) (w.alloc (.cells #[.int .i64 0, .string ⟨#[]⟩, .slice none 0 0] 26)) w1 := by simpa using hb
  obtain ⟨A, c, rfl⟩ := hsl.shape
  have hz := hb1.size
  rw [World.size_alloc] at hz
  have HSL := Lib.hid hsl
  have HRS := Lib.hid hrs
  have HB1 := Lib.hid hb1
  clear hb hsl hb1 hrs
  go_wp2_with fail
  refine (HSG.out rs HRS.out _).mono ?_
  rintro e w2 ⟨⟨rs2, rfl, hrs2⟩, hb2⟩
  have hb12 : Below (w1.heap.size + 1) (w1.alloc (.cells #[.int .i64 x.1, .string x.2.1, .slice A x.2.2.items.length c] 26)) w2 := by simpa using hb2
  have HRS2 := Lib.hid hrs2
  have HB12 := Lib.hid hb12
  have hz12 := hb12.size
  rw [World.size_alloc] at hz12
  clear hb2 hrs2 hb12
  go_wp2_with fail
  refine (HJ.out rs2 HRS2.out _).mono ?_
  rintro e w3 ⟨u2, rs3, rfl, hrs3, hsl3, hb3⟩
  obtain ⟨A2, c2, rfl⟩ := hsl3.shape
  have hb13 := (((Below.refl w1.heap.size w1).alloc (Nat.le_refl _) (.cells #[.int .i64 x.1, .string x.2.1, .slice A x.2.2.items.length c] 26)).trans (HB12.out.mono (Nat.le_succ _))).trans (hb3.mono (by omega))
  have hb13' : Below (w1.heap.size + 1) (w1.alloc (.cells #[.int .i64 x.1, .string x.2.1, .slice A x.2.2.items.length c] 26)) w3 := HB12.out.trans (hb3.mono hz12)
  have hb03 : Below (w.heap.size + 1) (w.alloc (.cells #[.int .i64 0, .string ⟨#[]⟩, .slice none 0 0] 26)) w3 := HB1.out.trans (hb13.mono hz)
  have hz3 := hb3.size
  have HRS3 := Lib.hid hrs3
  obtain ⟨h0, -, hr3, -⟩ := first_byte (hrs3.trans HT3.out)
  have HR4 := Lib.hid hr3
  have hs3 : 1 <= rs3.size := h0
  have HPX := Lib.hid (λ w => pref_any rs3 41 true (by rw [hrs3, HT3.out]; rfl) w)
  obtain ⟨W3, hW3⟩ : ∃ W3, W3 = w3.alloc (.cells #[.int .i64 y.1, .string y.2.1, .slice A2 y.2.2.items.length c2] 26) := ⟨_, rfl⟩
  have hbW : Below w3.heap.size w3 W3 := by rw [hW3]; exact (Below.refl _ _).alloc (Nat.le_refl _) _
  have hzW : W3.heap.size = w3.heap.size + 1 := by rw [hW3]; simp
  obtain ⟨-, p0, p1, p2, -⟩ := box_kept (hb13'.trans (hbW.mono (by omega)))
  obtain ⟨-, q0, q1, q2, -⟩ := box_kept (w := w3) (w1 := W3) (by rw [hW3]; exact Below.refl _ _)
  have hb5 : Below (w.heap.size + 1) (w.alloc (.cells #[.int .i64 0, .string ⟨#[]⟩, .slice none 0 0] 26)) (W3.alloc (.cells #[.int .i64 x.1, .string x.2.1, .slice A x.2.2.items.length c, .int .i64 y.1, .string y.2.1, .slice A2 y.2.2.items.length c2] 26)) := (hb03.trans (hbW.mono (by omega))).alloc (by omega) _
  obtain ⟨-, b0, b1, b2, f0, f1, f2⟩ := box_kept hb5
  have hso : ∀ g, g < w3.heap.size -> (W3.alloc (.cells #[.int .i64 x.1, .string x.2.1, .slice A x.2.2.items.length c, .int .i64 y.1, .string y.2.1, .slice A2 y.2.2.items.length c2] 26)).heap[g]? = w3.heap[g]? := λ g hg => (Below.heap_alloc _ _ g (by omega)).trans (hbW.block g hg)
  have HF := Lib.hid (two_end (k := (signB t1).1) (c := 2) hb5 (by omega : w.heap.size + 1 <= w3.heap.size) (show (W3.alloc (.cells #[.int .i64 x.1, .string x.2.1, .slice A x.2.2.items.length c, .int .i64 y.1, .string y.2.1, .slice A2 y.2.2.items.length c2] 26)).heap.size = W3.heap.size + 1 by simp) hzW (by rw [<- hzW]; exact heap_alloc_new W3 _) HLX.out HLY.out
    (S1 := λ g => w.heap.size + 1 <= g /\ g < w1.heap.size) (S2 := λ g => w1.heap.size + 1 <= g /\ g < w3.heap.size)
    (HSL.out.mono (λ g hg => (hso g (by have := hg.2; omega)).trans (hb13.block g hg.2)) (λ g hg => ⟨by have := hg.1; simpa using this, hg.2⟩))
    (hsl3.mono (λ g hg => hso g hg.2) (λ g hg => ⟨Nat.le_trans hz12 hg.1, hg.2⟩)) (λ g hg => ⟨hg.1, by omega⟩) (λ g hg => ⟨by omega, hg.2⟩) (λ g hg hg' => by omega) b0 b1 b2)
  have HW3 := Lib.hid hW3
  clear hb3 hb13 hb13' hsl3 hrs3 hr3 h0 hb5 hso hbW hb03
  go_wp2_with fail
  refine (HPX.out _).mono ?_
  rintro e w4 ⟨rfl, rfl⟩
  go_wp2_with fail
  rw [<- HW3.out]
  clear hW3
  go_region
  all_goals
    go_wp2_with fail
    obtain ⟨⟨c0, c1, c2⟩, hS, hB⟩ := HF.out
    exact bodyPost_ret (v := .tuple #[.agg #[.int .i64 (signB t1).1, .string ⟨#[]⟩, .slice (some ⟨w3.heap.size + 1, 0, none⟩) 2 2], .string (rs3.extract 1 rs3.size), .bool true]) (by simp [results, Tryz.results238, go_sem, c0, c1, c2]) rfl ⟨_, _, rfl, HR4.out, slt_drew hS, hB.drew⟩
theorem rd_end {w w1 : World} {Z : Obj} {d : Nat} {k : Int} {l : ByteArray} {u : Value} {f : Fr} {x0 x1 x2 : Value} (hb : Below (w.heap.size + 1) (w.alloc Z) w1) (hs : SlT w1 d (OwnB (w.alloc Z) w1) u f)
    (b0 : w1.cell? ⟨w.heap.size, 0, none⟩ = some x0) (b1 : w1.cell? ⟨w.heap.size, 1, none⟩ = some x1) (b2 : w1.cell? ⟨w.heap.size, 2, none⟩ = some x2) :
    let W4 := ((w1.setCell ⟨w.heap.size, 0, none⟩ (.int .i64 k)).setCell ⟨w.heap.size, 1, none⟩ (.string l)).setCell ⟨w.heap.size, 2, none⟩ u
    (W4.cell? ⟨w.heap.size, 0, none⟩ = some (.int .i64 k) /\ W4.cell? ⟨w.heap.size, 1, none⟩ = some (.string l) /\ W4.cell? ⟨w.heap.size, 2, none⟩ = some u) /\ SlT W4 d (OwnB w W4) u f /\ Below w.heap.size w W4 := by
  intro W4
  obtain ⟨hc, hsz, hot, hB⟩ := put3 (k := .int .i64 k) (l := .string l) (u := u) b0 b1 b2
  refine ⟨hc, hs.mono (λ h hh => hot h (by have := hh.1; simp at this; omega)) (λ h hh => ?_), hB _ _ (((Below.refl w.heap.size w).alloc (Nat.le_refl _) Z).trans (hb.mono (Nat.le_succ _))) (Nat.le_refl _)⟩
  have h1 := hh.1
  simp at h1
  exact ⟨by omega, by rw [hsz]; exact hh.2⟩
theorem no_bytes {s : ByteArray} (h : s.data.toList = []) : s.toList = [] := by rw [ByteArray.toList_eq]; exact h
theorem some_bytes {s : ByteArray} {c : UInt8} {r : List UInt8} (h : s.data.toList = c :: r) : ¬ s.toList = [] := by rw [ByteArray.toList_eq, h]; simp
theorem read_zero (s : ByteArray) (w : World) : Calls Tryz.prog 209 #[.string s, .int .i64 0] w (RdNo w) := by
  by_cases h : s.toList = []
  . go_enter Tryz.func209, Tryz.ntmps209
    go_wp2_with fail
    exact bodyPost_ret (v := .tuple #[.agg #[.int .i64 0, .string ⟨#[]⟩, .slice none 0 0], .string ⟨#[]⟩, .bool false]) (by simp [results, Tryz.results209, go_sem]) rfl ⟨rfl, (Below.refl _ _).alloc (Nat.le_refl _) _⟩
  . go_enter Tryz.func209, Tryz.ntmps209
    go_wp2_with fail
    exact bodyPost_ret (v := .tuple #[.agg #[.int .i64 0, .string ⟨#[]⟩, .slice none 0 0], .string ⟨#[]⟩, .bool false]) (by simp [results, Tryz.results209, go_sem]) rfl ⟨rfl, (Below.refl _ _).alloc (Nat.le_refl _) _⟩
theorem read_empty (s : ByteArray) (d : Int) (w : World) (h : s.toList = []) : Calls Tryz.prog 209 #[.string s, .int .i64 d] w (RdNo w) := by
  go_enter Tryz.func209, Tryz.ntmps209
  go_wp2_with fail
  exact bodyPost_ret (v := .tuple #[.agg #[.int .i64 0, .string ⟨#[]⟩, .slice none 0 0], .string ⟨#[]⟩, .bool false]) (by simp [results, Tryz.results209, go_sem]) rfl ⟨rfl, (Below.refl _ _).alloc (Nat.le_refl _) _⟩
theorem read_48 (s : ByteArray) (r : List UInt8) (d : Nat) (hd : d <= 6) (w : World) (hs : s.data.toList = 48 :: r) : Calls Tryz.prog 209 #[.string s, .int .i64 ((d : Int) + 1)] w (RdYes (d + 1) (bare 1) r w) := by
  obtain ⟨h0, hb, hr, hx⟩ := first_byte hs
  have e0 := some_bytes hs
  have e1 : s.toList.isEmpty = false := by simpa using e0
  have e9 : ((d : Int) + 1 == 0) = false := by simp; omega
  have hs1 : 1 <= s.size := h0
  have hd1 : (d : Int) + 1 - 1 = d := by omega
  have t48 : (((s[0]'h0).toNat : Int) == 48) = true := by rw [hb]; rfl
  have HR := Lib.hid hr
  clear hs hr hx hb
  go_enter Tryz.func209, Tryz.ntmps209
  go_wp2_with fail
  exact bodyPost_ret (v := .tuple #[.agg #[.int .i64 1, .string ⟨#[]⟩, .slice none 0 0], .string (s.extract 1 s.size), .bool true]) (by simp [results, Tryz.results209, go_sem]) rfl ⟨_, _, rfl, HR.out, SlT.none _ _ _ _ _, (Below.refl _ _).alloc (Nat.le_refl _) _⟩
theorem read_49 (s : ByteArray) (r : List UInt8) (d : Nat) (hd : d <= 6) (w : World) (hs : s.data.toList = 49 :: r) : Calls Tryz.prog 209 #[.string s, .int .i64 ((d : Int) + 1)] w (RdYes (d + 1) (bare 2) r w) := by
  obtain ⟨h0, hb, hr, hx⟩ := first_byte hs
  have e0 := some_bytes hs
  have e1 : s.toList.isEmpty = false := by simpa using e0
  have e9 : ((d : Int) + 1 == 0) = false := by simp; omega
  have hs1 : 1 <= s.size := h0
  have hd1 : (d : Int) + 1 - 1 = d := by omega
  have t48 : (((s[0]'h0).toNat : Int) == 48) = false := by rw [hb]; rfl
  have t49 : (((s[0]'h0).toNat : Int) == 49) = true := by rw [hb]; rfl
  have HR := Lib.hid hr
  clear hs hr hx hb
  go_enter Tryz.func209, Tryz.ntmps209
  go_wp2_with fail
  exact bodyPost_ret (v := .tuple #[.agg #[.int .i64 2, .string ⟨#[]⟩, .slice none 0 0], .string (s.extract 1 s.size), .bool true]) (by simp [results, Tryz.results209, go_sem]) rfl ⟨_, _, rfl, HR.out, SlT.none _ _ _ _ _, (Below.refl _ _).alloc (Nat.le_refl _) _⟩
theorem read_46 (s : ByteArray) (r : List UInt8) (d : Nat) (hd : d <= 6) (w : World) (hs : s.data.toList = 46 :: r) : Calls Tryz.prog 209 #[.string s, .int .i64 ((d : Int) + 1)] w (RdYes (d + 1) (bare 4) r w) := by
  obtain ⟨h0, hb, hr, hx⟩ := first_byte hs
  have e0 := some_bytes hs
  have e1 : s.toList.isEmpty = false := by simpa using e0
  have e9 : ((d : Int) + 1 == 0) = false := by simp; omega
  have hs1 : 1 <= s.size := h0
  have hd1 : (d : Int) + 1 - 1 = d := by omega
  have t48 : (((s[0]'h0).toNat : Int) == 48) = false := by rw [hb]; rfl
  have t49 : (((s[0]'h0).toNat : Int) == 49) = false := by rw [hb]; rfl
  have t46 : (((s[0]'h0).toNat : Int) == 46) = true := by rw [hb]; rfl
  have HR := Lib.hid hr
  clear hs hr hx hb
  go_enter Tryz.func209, Tryz.ntmps209
  go_wp2_with fail
  exact bodyPost_ret (v := .tuple #[.agg #[.int .i64 4, .string ⟨#[]⟩, .slice none 0 0], .string (s.extract 1 s.size), .bool true]) (by simp [results, Tryz.results209, go_sem]) rfl ⟨_, _, rfl, HR.out, SlT.none _ _ _ _ _, (Below.refl _ _).alloc (Nat.le_refl _) _⟩
theorem read_42_yes (s : ByteArray) (r : List UInt8) (d : Nat) (hd : d <= 6) (w : World) (hs : s.data.toList = 42 :: r) (x : Nd) (t : List UInt8) (h : ∀ w, Calls Tryz.prog 237 #[.int .i64 8, .string (s.extract 1 s.size), .int .i64 (d : Int)] w (RdYes (d + 1) x t w)) : Calls Tryz.prog 209 #[.string s, .int .i64 ((d : Int) + 1)] w (RdYes (d + 1) x t w) := by
  obtain ⟨h0, hb, hr, hx⟩ := first_byte hs
  have e0 := some_bytes hs
  have e1 : s.toList.isEmpty = false := by simpa using e0
  have e9 : ((d : Int) + 1 == 0) = false := by simp; omega
  have hs1 : 1 <= s.size := h0
  have hd1 : (d : Int) + 1 - 1 = d := by omega
  have t48 : (((s[0]'h0).toNat : Int) == 48) = false := by rw [hb]; rfl
  have t49 : (((s[0]'h0).toNat : Int) == 49) = false := by rw [hb]; rfl
  have t46 : (((s[0]'h0).toNat : Int) == 46) = false := by rw [hb]; rfl
  have t42 : (((s[0]'h0).toNat : Int) == 42) = true := by rw [hb]; rfl
  have HI := Lib.hid h
  clear hs hr hx hb h
  go_enter Tryz.func209, Tryz.ntmps209
  go_wp2_with fail
  (with_reducible refine (HI.out _).mono ?_)
  rintro e w1 ⟨u, rs, rfl, hrs, hsl, hb⟩
  have hb1 : Below (w.heap.size + 1) (w.alloc (.cells #[.int .i64 0, .string ⟨#[]⟩, .slice none 0 0] 26)) w1 := by simpa using hb
  obtain ⟨A, c, rfl⟩ := hsl.shape
  obtain ⟨hh, b0, b1, b2, f0, f1, f2⟩ := box_kept hb1
  have HF := Lib.hid (rd_end (k := x.1) (l := x.2.1) hb1 hsl b0 b1 b2)
  have HRS := Lib.hid hrs
  clear hb hsl hb1 hrs hh
  go_wp2_with fail
  obtain ⟨⟨c0, c1, c2⟩, hS, hB⟩ := HF.out
  exact bodyPost_ret (v := .tuple #[.agg #[.int .i64 x.1, .string x.2.1, .slice A x.2.2.items.length c], .string rs, .bool true]) (by simp [results, Tryz.results209, go_sem, c0, c1, c2]) rfl ⟨_, rs, rfl, HRS.out, hS, hB⟩
theorem read_42_no (s : ByteArray) (r : List UInt8) (d : Nat) (hd : d <= 6) (w : World) (hs : s.data.toList = 42 :: r) (h : ∀ w, Calls Tryz.prog 237 #[.int .i64 8, .string (s.extract 1 s.size), .int .i64 (d : Int)] w (RdNo w)) : Calls Tryz.prog 209 #[.string s, .int .i64 ((d : Int) + 1)] w (RdNo w) := by
  obtain ⟨h0, hb, hr, hx⟩ := first_byte hs
  have e0 := some_bytes hs
  have e1 : s.toList.isEmpty = false := by simpa using e0
  have e9 : ((d : Int) + 1 == 0) = false := by simp; omega
  have hs1 : 1 <= s.size := h0
  have hd1 : (d : Int) + 1 - 1 = d := by omega
  have t48 : (((s[0]'h0).toNat : Int) == 48) = false := by rw [hb]; rfl
  have t49 : (((s[0]'h0).toNat : Int) == 49) = false := by rw [hb]; rfl
  have t46 : (((s[0]'h0).toNat : Int) == 46) = false := by rw [hb]; rfl
  have t42 : (((s[0]'h0).toNat : Int) == 42) = true := by rw [hb]; rfl
  have HI := Lib.hid h
  clear hs hr hx hb h
  go_enter Tryz.func209, Tryz.ntmps209
  go_wp2_with fail
  (with_reducible refine (HI.out _).mono ?_)
  rintro e w1 ⟨rfl, hb⟩
  have hb1 : Below (w.heap.size + 1) (w.alloc (.cells #[.int .i64 0, .string ⟨#[]⟩, .slice none 0 0] 26)) w1 := by simpa using hb
  obtain ⟨hh, b0, b1, b2, f0, f1, f2⟩ := box_kept hb1
  have HF := Lib.hid (put3 (k := .int .i64 0) (l := .string ⟨#[]⟩) (u := .slice none 0 0) b0 b1 b2)
  have HB := Lib.hid (((Below.refl w.heap.size w).alloc (Nat.le_refl _) (.cells #[.int .i64 0, .string ⟨#[]⟩, .slice none 0 0] 26)).trans (hb1.mono (Nat.le_succ _)))
  clear hb hb1 hh
  go_wp2_with fail
  obtain ⟨⟨c0, c1, c2⟩, _, _, hB⟩ := HF.out
  exact bodyPost_ret (v := .tuple #[.agg #[.int .i64 0, .string ⟨#[]⟩, .slice none 0 0], .string ⟨#[]⟩, .bool false]) (by simp [results, Tryz.results209, go_sem, c0, c1, c2]) rfl ⟨rfl, hB _ _ HB.out (Nat.le_refl _)⟩
theorem read_33_yes (s : ByteArray) (r : List UInt8) (d : Nat) (hd : d <= 6) (w : World) (hs : s.data.toList = 33 :: r) (x : Nd) (t : List UInt8) (h : ∀ w, Calls Tryz.prog 237 #[.int .i64 9, .string (s.extract 1 s.size), .int .i64 (d : Int)] w (RdYes (d + 1) x t w)) : Calls Tryz.prog 209 #[.string s, .int .i64 ((d : Int) + 1)] w (RdYes (d + 1) x t w) := by
  obtain ⟨h0, hb, hr, hx⟩ := first_byte hs
  have e0 := some_bytes hs
  have e1 : s.toList.isEmpty = false := by simpa using e0
  have e9 : ((d : Int) + 1 == 0) = false := by simp; omega
  have hs1 : 1 <= s.size := h0
  have hd1 : (d : Int) + 1 - 1 = d := by omega
  have t48 : (((s[0]'h0).toNat : Int) == 48) = false := by rw [hb]; rfl
  have t49 : (((s[0]'h0).toNat : Int) == 49) = false := by rw [hb]; rfl
  have t46 : (((s[0]'h0).toNat : Int) == 46) = false := by rw [hb]; rfl
  have t42 : (((s[0]'h0).toNat : Int) == 42) = false := by rw [hb]; rfl
  have t33 : (((s[0]'h0).toNat : Int) == 33) = true := by rw [hb]; rfl
  have HI := Lib.hid h
  clear hs hr hx hb h
  go_enter Tryz.func209, Tryz.ntmps209
  go_wp2_with fail
  (with_reducible refine (HI.out _).mono ?_)
  rintro e w1 ⟨u, rs, rfl, hrs, hsl, hb⟩
  have hb1 : Below (w.heap.size + 1) (w.alloc (.cells #[.int .i64 0, .string ⟨#[]⟩, .slice none 0 0] 26)) w1 := by simpa using hb
  obtain ⟨A, c, rfl⟩ := hsl.shape
  obtain ⟨hh, b0, b1, b2, f0, f1, f2⟩ := box_kept hb1
  have HF := Lib.hid (rd_end (k := x.1) (l := x.2.1) hb1 hsl b0 b1 b2)
  have HRS := Lib.hid hrs
  clear hb hsl hb1 hrs hh
  go_wp2_with fail
  obtain ⟨⟨c0, c1, c2⟩, hS, hB⟩ := HF.out
  exact bodyPost_ret (v := .tuple #[.agg #[.int .i64 x.1, .string x.2.1, .slice A x.2.2.items.length c], .string rs, .bool true]) (by simp [results, Tryz.results209, go_sem, c0, c1, c2]) rfl ⟨_, rs, rfl, HRS.out, hS, hB⟩
theorem read_33_no (s : ByteArray) (r : List UInt8) (d : Nat) (hd : d <= 6) (w : World) (hs : s.data.toList = 33 :: r) (h : ∀ w, Calls Tryz.prog 237 #[.int .i64 9, .string (s.extract 1 s.size), .int .i64 (d : Int)] w (RdNo w)) : Calls Tryz.prog 209 #[.string s, .int .i64 ((d : Int) + 1)] w (RdNo w) := by
  obtain ⟨h0, hb, hr, hx⟩ := first_byte hs
  have e0 := some_bytes hs
  have e1 : s.toList.isEmpty = false := by simpa using e0
  have e9 : ((d : Int) + 1 == 0) = false := by simp; omega
  have hs1 : 1 <= s.size := h0
  have hd1 : (d : Int) + 1 - 1 = d := by omega
  have t48 : (((s[0]'h0).toNat : Int) == 48) = false := by rw [hb]; rfl
  have t49 : (((s[0]'h0).toNat : Int) == 49) = false := by rw [hb]; rfl
  have t46 : (((s[0]'h0).toNat : Int) == 46) = false := by rw [hb]; rfl
  have t42 : (((s[0]'h0).toNat : Int) == 42) = false := by rw [hb]; rfl
  have t33 : (((s[0]'h0).toNat : Int) == 33) = true := by rw [hb]; rfl
  have HI := Lib.hid h
  clear hs hr hx hb h
  go_enter Tryz.func209, Tryz.ntmps209
  go_wp2_with fail
  (with_reducible refine (HI.out _).mono ?_)
  rintro e w1 ⟨rfl, hb⟩
  have hb1 : Below (w.heap.size + 1) (w.alloc (.cells #[.int .i64 0, .string ⟨#[]⟩, .slice none 0 0] 26)) w1 := by simpa using hb
  obtain ⟨hh, b0, b1, b2, f0, f1, f2⟩ := box_kept hb1
  have HF := Lib.hid (put3 (k := .int .i64 0) (l := .string ⟨#[]⟩) (u := .slice none 0 0) b0 b1 b2)
  have HB := Lib.hid (((Below.refl w.heap.size w).alloc (Nat.le_refl _) (.cells #[.int .i64 0, .string ⟨#[]⟩, .slice none 0 0] 26)).trans (hb1.mono (Nat.le_succ _)))
  clear hb hb1 hh
  go_wp2_with fail
  obtain ⟨⟨c0, c1, c2⟩, _, _, hB⟩ := HF.out
  exact bodyPost_ret (v := .tuple #[.agg #[.int .i64 0, .string ⟨#[]⟩, .slice none 0 0], .string ⟨#[]⟩, .bool false]) (by simp [results, Tryz.results209, go_sem, c0, c1, c2]) rfl ⟨rfl, hB _ _ HB.out (Nat.le_refl _)⟩
theorem read_40_yes (s : ByteArray) (r : List UInt8) (d : Nat) (hd : d <= 6) (w : World) (hs : s.data.toList = 40 :: r) (x : Nd) (t : List UInt8) (h : ∀ w, Calls Tryz.prog 238 #[.string (s.extract 1 s.size), .int .i64 (d : Int)] w (RdYes (d + 1) x t w)) : Calls Tryz.prog 209 #[.string s, .int .i64 ((d : Int) + 1)] w (RdYes (d + 1) x t w) := by
  obtain ⟨h0, hb, hr, hx⟩ := first_byte hs
  have e0 := some_bytes hs
  have e1 : s.toList.isEmpty = false := by simpa using e0
  have e9 : ((d : Int) + 1 == 0) = false := by simp; omega
  have hs1 : 1 <= s.size := h0
  have hd1 : (d : Int) + 1 - 1 = d := by omega
  have t48 : (((s[0]'h0).toNat : Int) == 48) = false := by rw [hb]; rfl
  have t49 : (((s[0]'h0).toNat : Int) == 49) = false := by rw [hb]; rfl
  have t46 : (((s[0]'h0).toNat : Int) == 46) = false := by rw [hb]; rfl
  have t42 : (((s[0]'h0).toNat : Int) == 42) = false := by rw [hb]; rfl
  have t33 : (((s[0]'h0).toNat : Int) == 33) = false := by rw [hb]; rfl
  have t40 : (((s[0]'h0).toNat : Int) == 40) = true := by rw [hb]; rfl
  have HI := Lib.hid h
  clear hs hr hx hb h
  go_enter Tryz.func209, Tryz.ntmps209
  go_wp2_with fail
  (with_reducible refine (HI.out _).mono ?_)
  rintro e w1 ⟨u, rs, rfl, hrs, hsl, hb⟩
  have hb1 : Below (w.heap.size + 1) (w.alloc (.cells #[.int .i64 0, .string ⟨#[]⟩, .slice none 0 0] 26)) w1 := by simpa using hb
  obtain ⟨A, c, rfl⟩ := hsl.shape
  obtain ⟨hh, b0, b1, b2, f0, f1, f2⟩ := box_kept hb1
  have HF := Lib.hid (rd_end (k := x.1) (l := x.2.1) hb1 hsl b0 b1 b2)
  have HRS := Lib.hid hrs
  clear hb hsl hb1 hrs hh
  go_wp2_with fail
  obtain ⟨⟨c0, c1, c2⟩, hS, hB⟩ := HF.out
  exact bodyPost_ret (v := .tuple #[.agg #[.int .i64 x.1, .string x.2.1, .slice A x.2.2.items.length c], .string rs, .bool true]) (by simp [results, Tryz.results209, go_sem, c0, c1, c2]) rfl ⟨_, rs, rfl, HRS.out, hS, hB⟩
theorem read_40_no (s : ByteArray) (r : List UInt8) (d : Nat) (hd : d <= 6) (w : World) (hs : s.data.toList = 40 :: r) (h : ∀ w, Calls Tryz.prog 238 #[.string (s.extract 1 s.size), .int .i64 (d : Int)] w (RdNo w)) : Calls Tryz.prog 209 #[.string s, .int .i64 ((d : Int) + 1)] w (RdNo w) := by
  obtain ⟨h0, hb, hr, hx⟩ := first_byte hs
  have e0 := some_bytes hs
  have e1 : s.toList.isEmpty = false := by simpa using e0
  have e9 : ((d : Int) + 1 == 0) = false := by simp; omega
  have hs1 : 1 <= s.size := h0
  have hd1 : (d : Int) + 1 - 1 = d := by omega
  have t48 : (((s[0]'h0).toNat : Int) == 48) = false := by rw [hb]; rfl
  have t49 : (((s[0]'h0).toNat : Int) == 49) = false := by rw [hb]; rfl
  have t46 : (((s[0]'h0).toNat : Int) == 46) = false := by rw [hb]; rfl
  have t42 : (((s[0]'h0).toNat : Int) == 42) = false := by rw [hb]; rfl
  have t33 : (((s[0]'h0).toNat : Int) == 33) = false := by rw [hb]; rfl
  have t40 : (((s[0]'h0).toNat : Int) == 40) = true := by rw [hb]; rfl
  have HI := Lib.hid h
  clear hs hr hx hb h
  go_enter Tryz.func209, Tryz.ntmps209
  go_wp2_with fail
  (with_reducible refine (HI.out _).mono ?_)
  rintro e w1 ⟨rfl, hb⟩
  have hb1 : Below (w.heap.size + 1) (w.alloc (.cells #[.int .i64 0, .string ⟨#[]⟩, .slice none 0 0] 26)) w1 := by simpa using hb
  obtain ⟨hh, b0, b1, b2, f0, f1, f2⟩ := box_kept hb1
  have HF := Lib.hid (put3 (k := .int .i64 0) (l := .string ⟨#[]⟩) (u := .slice none 0 0) b0 b1 b2)
  have HB := Lib.hid (((Below.refl w.heap.size w).alloc (Nat.le_refl _) (.cells #[.int .i64 0, .string ⟨#[]⟩, .slice none 0 0] 26)).trans (hb1.mono (Nat.le_succ _)))
  clear hb hb1 hh
  go_wp2_with fail
  obtain ⟨⟨c0, c1, c2⟩, _, _, hB⟩ := HF.out
  exact bodyPost_ret (v := .tuple #[.agg #[.int .i64 0, .string ⟨#[]⟩, .slice none 0 0], .string ⟨#[]⟩, .bool false]) (by simp [results, Tryz.results209, go_sem, c0, c1, c2]) rfl ⟨rfl, hB _ _ HB.out (Nat.le_refl _)⟩
theorem read_letter_yes (c : UInt8) (s : ByteArray) (r : List UInt8) (d : Nat) (hd : d <= 6) (w : World) (hs : s.data.toList = c :: r) (n48 : ¬ c = 48) (n49 : ¬ c = 49) (n46 : ¬ c = 46) (n42 : ¬ c = 42) (n33 : ¬ c = 33) (n40 : ¬ c = 40) (hc : isLetter c = true) : Calls Tryz.prog 209 #[.string s, .int .i64 ((d : Int) + 1)] w (RdYes (d + 1) (3, ⟨#[c]⟩, .nil) r w) := by
  obtain ⟨h0, hb, hr, hx⟩ := first_byte hs
  have e0 := some_bytes hs
  have e1 : s.toList.isEmpty = false := by simpa using e0
  have e9 : ((d : Int) + 1 == 0) = false := by simp; omega
  have hs1 : 1 <= s.size := h0
  have hd1 : (d : Int) + 1 - 1 = d := by omega
  have t48 : (((s[0]'h0).toNat : Int) == 48) = false := no_byte (c := 48) (by rw [hb]; exact n48)
  have t49 : (((s[0]'h0).toNat : Int) == 49) = false := no_byte (c := 49) (by rw [hb]; exact n49)
  have t46 : (((s[0]'h0).toNat : Int) == 46) = false := no_byte (c := 46) (by rw [hb]; exact n46)
  have t42 : (((s[0]'h0).toNat : Int) == 42) = false := no_byte (c := 42) (by rw [hb]; exact n42)
  have t33 : (((s[0]'h0).toNat : Int) == 33) = false := no_byte (c := 33) (by rw [hb]; exact n33)
  have t40 : (((s[0]'h0).toNat : Int) == 40) = false := no_byte (c := 40) (by rw [hb]; exact n40)
  have HLI := Lib.hid (implLet_any (s[0]'h0))
  have g1 : 0 <= letIdx (s[0]'h0) := by rw [hb]; have := letIdx_yes hc; omega
  have HR := Lib.hid hr
  have HX := Lib.hid hx
  clear hs hr hx hb hc n48 n49 n46 n42 n33 n40
  go_enter Tryz.func209, Tryz.ntmps209
  go_wp2_with fail
  refine (HLI.out _).mono ?_
  rintro e w1 ⟨rfl, rfl⟩
  go_wp2_with fail
  exact bodyPost_ret (v := .tuple #[.agg #[.int .i64 3, .string (s.extract 0 1), .slice none 0 0], .string (s.extract 1 s.size), .bool true]) (by simp [results, Tryz.results209, go_sem]) rfl ⟨_, _, by rw [HX.out], HR.out, SlT.none _ _ _ _ _, (Below.refl _ _).alloc (Nat.le_refl _) _⟩
theorem read_letter_no (c : UInt8) (s : ByteArray) (r : List UInt8) (d : Nat) (hd : d <= 6) (w : World) (hs : s.data.toList = c :: r) (n48 : ¬ c = 48) (n49 : ¬ c = 49) (n46 : ¬ c = 46) (n42 : ¬ c = 42) (n33 : ¬ c = 33) (n40 : ¬ c = 40) (hc : isLetter c = false) : Calls Tryz.prog 209 #[.string s, .int .i64 ((d : Int) + 1)] w (RdNo w) := by
  obtain ⟨h0, hb, hr, hx⟩ := first_byte hs
  have e0 := some_bytes hs
  have e1 : s.toList.isEmpty = false := by simpa using e0
  have e9 : ((d : Int) + 1 == 0) = false := by simp; omega
  have hs1 : 1 <= s.size := h0
  have hd1 : (d : Int) + 1 - 1 = d := by omega
  have t48 : (((s[0]'h0).toNat : Int) == 48) = false := no_byte (c := 48) (by rw [hb]; exact n48)
  have t49 : (((s[0]'h0).toNat : Int) == 49) = false := no_byte (c := 49) (by rw [hb]; exact n49)
  have t46 : (((s[0]'h0).toNat : Int) == 46) = false := no_byte (c := 46) (by rw [hb]; exact n46)
  have t42 : (((s[0]'h0).toNat : Int) == 42) = false := no_byte (c := 42) (by rw [hb]; exact n42)
  have t33 : (((s[0]'h0).toNat : Int) == 33) = false := no_byte (c := 33) (by rw [hb]; exact n33)
  have t40 : (((s[0]'h0).toNat : Int) == 40) = false := no_byte (c := 40) (by rw [hb]; exact n40)
  have HLI := Lib.hid (implLet_any (s[0]'h0))
  have g1 : letIdx (s[0]'h0) = -1 := by rw [hb]; exact letIdx_no hc
  have HR := Lib.hid hr
  have HX := Lib.hid hx
  clear hs hr hx hb hc n48 n49 n46 n42 n33 n40
  go_enter Tryz.func209, Tryz.ntmps209
  go_wp2_with fail
  refine (HLI.out _).mono ?_
  rintro e w1 ⟨rfl, rfl⟩
  go_wp2_with fail
  exact bodyPost_ret (v := .tuple #[.agg #[.int .i64 0, .string ⟨#[]⟩, .slice none 0 0], .string ⟨#[]⟩, .bool false]) (by simp [results, Tryz.results209, go_sem]) rfl ⟨rfl, (Below.refl _ _).alloc (Nat.le_refl _) _⟩
theorem rd_some {d : Nat} {l : List UInt8} {x : Nd} {t : List UInt8} {w w' : World} {e : Ending} (hp : parse d l = some (x, t)) (h : RdYes d x t w e w') : RdPost d l w e w' := by unfold RdPost; rw [hp]; exact h
theorem rd_none {d : Nat} {l : List UInt8} {w w' : World} {e : Ending} (hp : parse d l = none) (h : RdNo w e w') : RdPost d l w e w' := by unfold RdPost; rw [hp]; exact h
theorem rdAt_all : ∀ d, d <= 6 -> RdAt d
  | 0, _ => λ s w _ => (read_zero s w).mono λ _ _ h => rd_none rfl h
  | d + 1, hd6 => λ s w hs => by
    have hd : d <= 6 := by omega
    have ih := rdAt_all d hd
    rw [show ((d + 1 : Nat) : Int) = (d : Int) + 1 by omega]
    cases hl : s.data.toList with
    | nil => exact (read_empty s _ w (no_bytes hl)).mono λ _ _ h => rd_none rfl h
    | cons c r =>
      obtain ⟨h0, -, hr, -⟩ := first_byte hl
      have hsz : (s.extract 1 s.size).size <= 1048576 := by
        have h1 := size_of hr
        have h2 := size_of hl
        simp at h2
        have e : s.data.size = s.size := rfl
        omega
      by_cases n48 : c = 48
      . subst n48; exact (read_48 s r d hd w hl).mono λ _ _ h => rd_some rfl h
      by_cases n49 : c = 49
      . subst n49; exact (read_49 s r d hd w hl).mono λ _ _ h => rd_some rfl h
      by_cases n46 : c = 46
      . subst n46; exact (read_46 s r d hd w hl).mono λ _ _ h => rd_some rfl h
      by_cases n42 : c = 42
      . subst n42
        cases hq : parse d r with
        | some p => exact (read_42_yes s r d hd w hl (one 8 p.1) p.2 (λ w => readOne_yes ih 8 _ p.1 p.2 w (by rw [hr, hq]) hsz)).mono λ _ _ h => rd_some (show (parse d r).map _ = _ by rw [hq]; rfl) h
        | none => exact (read_42_no s r d hd w hl (λ w => readOne_no ih 8 _ w (by rw [hr, hq]) hsz)).mono λ _ _ h => rd_none (show (parse d r).map _ = _ by rw [hq]; rfl) h
      by_cases n33 : c = 33
      . subst n33
        cases hq : parse d r with
        | some p => exact (read_33_yes s r d hd w hl (one 9 p.1) p.2 (λ w => readOne_yes ih 9 _ p.1 p.2 w (by rw [hr, hq]) hsz)).mono λ _ _ h => rd_some (show (parse d r).map _ = _ by rw [hq]; rfl) h
        | none => exact (read_33_no s r d hd w hl (λ w => readOne_no ih 9 _ w (by rw [hr, hq]) hsz)).mono λ _ _ h => rd_none (show (parse d r).map _ = _ by rw [hq]; rfl) h
      by_cases n40 : c = 40
      . subst n40
        cases hq : parse d r with
        | none => exact (read_40_no s r d hd w hl (λ w => readTwo_no1 ih _ w (by rw [hr, hq]) hsz)).mono λ _ _ h => rd_none (show (parse d r).bind _ = _ by rw [hq]; rfl) h
        | some p =>
          obtain ⟨x, t1⟩ := p
          cases hq2 : parse d (signB t1).2 with
          | none => exact (read_40_no s r d hd w hl (λ w => readTwo_no2 ih _ x t1 w (by rw [hr, hq]) hsz hq2)).mono λ _ _ h => rd_none (show (parse d r).bind _ = _ by rw [hq]; show pairB x _ (parse d (signB t1).2) = none; rw [hq2]; rfl) h
          | some p2 =>
            obtain ⟨y, t3⟩ := p2
            cases hc : closeB t3 with
            | none => exact (read_40_no s r d hd w hl (λ w => readTwo_no3 ih _ x t1 w (by rw [hr, hq]) hsz y t3 hq2 hc)).mono λ _ _ h => rd_none (show (parse d r).bind _ = _ by rw [hq]; show pairB x _ (parse d (signB t1).2) = none; rw [hq2]; show (closeB t3).map _ = none; rw [hc]; rfl) h
            | some t4 => exact (read_40_yes s r d hd w hl (two (signB t1).1 x y) t4 (λ w => readTwo_yes ih _ x t1 w (by rw [hr, hq]) hsz y t3 t4 hq2 hc)).mono λ _ _ h => rd_some (show (parse d r).bind _ = _ by rw [hq]; show pairB x _ (parse d (signB t1).2) = _; rw [hq2]; show (closeB t3).map _ = _; rw [hc]; rfl) h
      have hp : parse (d + 1) (c :: r) = if isLetter c then some ((3, ⟨#[c]⟩, .nil), r) else none := by
        show (if c = 48 then _ else _) = _
        rw [if_neg n48, if_neg n49, if_neg n46, if_neg n42, if_neg n33, if_neg n40]
        rfl
      cases hL : isLetter c with
      | true => exact (read_letter_yes c s r d hd w hl n48 n49 n46 n42 n33 n40 hL).mono λ _ _ h => rd_some (by rw [hp, if_pos hL]; rfl) h
      | false => exact (read_letter_no c s r d hd w hl n48 n49 n46 n42 n33 n40 hL).mono λ _ _ h => rd_none (by rw [hp, if_neg (by rw [hL]; decide)]; rfl) h
theorem implIsWord_any (s : ByteArray) (w : World) (hs : s.size <= maxLen) :
    Calls Tryz.prog 129 #[.string s] w λ e w' => e = .returned (.bool (isW s.data.toList)) /\ w = w' := by
  unfold maxLen at hs
  by_cases h30 : 30 < s.size
  . have HN := Lib.hid (isW_long h30)
    go_enter Tryz.func129, Tryz.ntmps129
    go_wp2
    go_ret
    exact ⟨congrArg (λ z => Ending.returned (.bool z)) HN.out.symm, rfl⟩
  . go_enter Tryz.func129, Tryz.ntmps129
    go_wp2
    go_loop [9] (λ i => ∃ k : Nat, i = .int .i64 k /\ k <= s.size /\ (s.data.toList.take k).all isLetter = true) (λ i => s.size - (intOf i).toNat)
    case atStart => exact ⟨0, rfl, Nat.zero_le _, rfl⟩
    case round =>
      obtain ⟨k, rfl, hk, hall⟩ := hrel
      have HA := Lib.hid hall
      clear hall
      by_cases hlt : k < s.size
      . cases hb : isLetter s[k] with
        | true =>
          have HN := Lib.hid (show (s.data.toList.take (k + 1)).all isLetter = true by rw [all_take_succ s k hlt, HA.out, hb]; rfl)
          obtain ⟨hl, h97, h99⟩ := letIdx_yes hb
          have hl0 : 0 <= letIdx s[k] := by omega
          clear hl hb
          go_wp2_with (go_at_call 179; refine (implLet_any _ _).mono ?_; rintro e w' ⟨rfl, rfl⟩)
          go_round
          case rel => exact ⟨k + 1, by go_num, by omega, HN.out⟩
          case measure => simp [intOf]; omega
        | false =>
          have HN := Lib.hid (isW_bad hlt hb)
          have hl := letIdx_no hb
          have hl0 : letIdx s[k] < 0 := by omega
          clear hl hb
          go_wp2_with (go_at_call 179; refine (implLet_any _ _).mono ?_; rintro e w' ⟨rfl, rfl⟩)
          go_ret
          exact ⟨congrArg (λ z => Ending.returned (.bool z)) HN.out.symm, rfl⟩
      . obtain rfl : k = s.size := by omega
        have HN := Lib.hid (isW_all HA.out)
        have hd : decide ((s.size : Int) <= 30) = true := by simp; omega
        have HN2 := Lib.hid (HN.out.trans hd)
        clear hd
        go_wp2
        go_ret
        exact ⟨congrArg (λ z => Ending.returned (.bool z)) HN2.out.symm, rfl⟩
end Go.Proofs.YtppliiingoonlaaGreatDoor
