/-
  Texts of one proof, one behind the other.
-/
import Derived.Deep.RegionHeld3
import Derived.Shelf.Abstract
import Derived.Outline
import Derived.RegionTactic
import Derived.Test.YtppliiingoonlaaQeP2
import Derived.Test.YtppliiingoonlaaQeP3
import Derived.Test.YtppliiingoonlaaQeP4

/-
  What spec.EqualConstraint answers: whether two constraints hold the same.
-/
namespace Go.Proofs.Ytppliiingoonlaa
open Go.RowKit

set_option maxRecDepth 100000 in
set_option maxHeartbeats 6400000 in
theorem specEqC_any (a b : Cx) (xu vc xu' vc' : Value) (w : World) (h : CnO w xu vc a) (h' : CnO w xu' vc' b) :
    Calls Try.prog 6 #[.agg #[.int .i64 a.k, .string a.l, .string a.r, .int .i64 a.xk, .string a.xl, xu, vc, .int .i64 a.b], .agg #[.int .i64 b.k, .string b.l, .string b.r, .int .i64 b.xk, .string b.xl, xu', vc', .int .i64 b.b]] w fun e w' => e = .returned (.bool (sameC a b)) ∧ Below w.heap.size w w' := by
  obtain ⟨A, m, B, r, rfl, rfl⟩ := h.shape
  obtain ⟨A', m', B', r', rfl, rfl⟩ := h'.shape
  obtain ⟨W1, hW1⟩ : ∃ W1, W1 = w.alloc (.cells #[.int .i64 a.k, .string a.l, .string a.r, .int .i64 a.xk, .string a.xl, .slice A a.xa.items.length m, .slice B a.cs.length r, .int .i64 a.b] 34) := ⟨_, rfl⟩
  obtain ⟨W, hW⟩ : ∃ W, W = W1.alloc (.cells #[.int .i64 b.k, .string b.l, .string b.r, .int .i64 b.xk, .string b.xl, .slice A' b.xa.items.length m', .slice B' b.cs.length r', .int .i64 b.b] 34) := ⟨_, rfl⟩
  have hb1 : Below w.heap.size w W1 := by rw [hW1]; exact (Below.refl _ _).alloc (Nat.le_refl _) _
  have hb12 : Below W1.heap.size W1 W := by rw [hW]; exact (Below.refl _ _).alloc (Nat.le_refl _) _
  have hz1 : W1.heap.size = w.heap.size + 1 := by rw [hW1]; simp
  have hb0 := hb1.trans (hb12.mono hb1.size)
  have hbxa : BoxC W w.heap.size a (.slice A a.xa.items.length m) (.slice B a.cs.length r) := BoxC.kept (by rw [hW1]; exact boxC_new w a _ _ _) hb12
  have hbxb : BoxC W (w.heap.size + 1) b (.slice A' b.xa.items.length m') (.slice B' b.cs.length r') := by rw [hW, ← hz1]; exact boxC_new W1 b _ _ _
  rw [hW1] at hW
  have HWE := Lib.hid hW
  have HB0 := Lib.hid hb0
  have hbk : ∀ (V : World), Below W.heap.size W V → Below w.heap.size w V := fun V hb => hb0.trans (hb.mono hb0.size)
  have UE := Lib.hid (fun (V : World) (hb : Below W.heap.size W V) => by
    obtain ⟨_, ⟨n, hs⟩, _⟩ := (h.kept (hbk V hb)).read
    obtain ⟨_, ⟨n', hs'⟩, _⟩ := (h'.kept (hbk V hb)).read
    exact specEqual_any n n' V.heap.size a.xk b.xk a.xl b.xl (.slice A a.xa.items.length m) (.slice A' b.xa.items.length m') a.xa b.xa V hs hs' (Nat.le_refl _))
  have UL := Lib.hid (fun (V : World) (hb : Below W.heap.size W V) => specInts_any (.slice B a.cs.length r) (.slice B' b.cs.length r') a.cs b.cs _ _ V (h.kept (hbk V hb)).2.2.row (h'.kept (hbk V hb)).2.2.row)
  have KA := Lib.hid (fun (V : World) (hb : Below W.heap.size W V) => (hbxa.kept hb).cells)
  have KB := Lib.hid (fun (V : World) (hb : Below W.heap.size W V) => (hbxb.kept hb).cells)
  have HR := Lib.hid (show sameC a b = sameC a b from rfl)
  obtain ⟨res, hres⟩ : ∃ res, res = sameC a b := ⟨_, rfl⟩
  rw [← hres]
  unfold sameC at hres
  clear HR hbxa hbxb hbk hW1 hb1 hb12 hz1 hW h h'
  generalize h1 : (a.k == b.k) = q1 at hres
  generalize h2 : (a.l.toList == b.l.toList) = q2 at hres
  generalize h3 : (a.r.toList == b.r.toList) = q3 at hres
  generalize h4 : sameRx a.xk b.xk a.xl b.xl a.xa b.xa = q4 at hres UE
  generalize h5 : decide (a.cs = b.cs) = q5 at hres UL
  generalize h6 : (a.b == b.b) = q6 at hres
  clear h4 h5
  have hk := KA.out W (Below.refl _ _)
  have hj := KB.out W (Below.refl _ _)
  rw [HWE.out] at hk hj
  obtain ⟨k0, k1, k2, k3, k4, k5, k6, k7⟩ := hk
  obtain ⟨j0, j1, j2, j3, j4, j5, j6, j7⟩ := hj
  cases q1 with
  | false =>
    subst hres
    go_enter Try.func6, Try.ntmps6
    go_wp2_with fail
    go_ret
    exact ⟨rfl, by rw [← HWE.out]; exact HB0.out⟩
  | true =>
    cases q2 with
    | false =>
      subst hres
      go_enter Try.func6, Try.ntmps6
      go_wp2_with fail
      go_ret
      exact ⟨rfl, by rw [← HWE.out]; exact HB0.out⟩
    | true =>
      cases q3 with
      | false =>
        subst hres
        go_enter Try.func6, Try.ntmps6
        go_wp2_with fail
        go_ret
        exact ⟨rfl, by rw [← HWE.out]; exact HB0.out⟩
      | true =>
        cases q4 with
        | false =>
          subst hres
          go_enter Try.func6, Try.ntmps6
          go_wp2_with fail
          rw [← HWE.out]
          refine (UE.out W (Below.refl _ _)).mono ?_
          rintro e w1 ⟨rfl, hb1⟩
          have HB1 := Lib.hid hb1
          clear hb1 k0 k1 k2 k3 k4 k5 k6 k7 j0 j1 j2 j3 j4 j5 j6 j7
          obtain ⟨k0, k1, k2, k3, k4, k5, k6, k7⟩ := KA.out w1 HB1.out
          obtain ⟨j0, j1, j2, j3, j4, j5, j6, j7⟩ := KB.out w1 HB1.out
          go_wp2_with fail
          go_ret
          exact ⟨rfl, HB0.out.trans (HB1.out.mono HB0.out.size)⟩
        | true =>
          cases q5 with
          | false =>
            subst hres
            go_enter Try.func6, Try.ntmps6
            go_wp2_with fail
            rw [← HWE.out]
            refine (UE.out W (Below.refl _ _)).mono ?_
            rintro e w1 ⟨rfl, hb1⟩
            have HB1 := Lib.hid hb1
            clear hb1 k0 k1 k2 k3 k4 k5 k6 k7 j0 j1 j2 j3 j4 j5 j6 j7
            obtain ⟨k0, k1, k2, k3, k4, k5, k6, k7⟩ := KA.out w1 HB1.out
            obtain ⟨j0, j1, j2, j3, j4, j5, j6, j7⟩ := KB.out w1 HB1.out
            go_wp2_with fail
            refine (UL.out w1 HB1.out).mono ?_
            rintro e w2 ⟨rfl, hb2⟩
            have HB2 := Lib.hid (HB1.out.trans (hb2.mono HB1.out.size))
            clear hb2 k0 k1 k2 k3 k4 k5 k6 k7 j0 j1 j2 j3 j4 j5 j6 j7
            obtain ⟨k0, k1, k2, k3, k4, k5, k6, k7⟩ := KA.out w2 HB2.out
            obtain ⟨j0, j1, j2, j3, j4, j5, j6, j7⟩ := KB.out w2 HB2.out
            go_wp2_with fail
            go_ret
            exact ⟨rfl, HB0.out.trans (HB2.out.mono HB0.out.size)⟩
          | true =>
            cases q6 with
            | false =>
              subst hres
              go_enter Try.func6, Try.ntmps6
              go_wp2_with fail
              rw [← HWE.out]
              refine (UE.out W (Below.refl _ _)).mono ?_
              rintro e w1 ⟨rfl, hb1⟩
              have HB1 := Lib.hid hb1
              clear hb1 k0 k1 k2 k3 k4 k5 k6 k7 j0 j1 j2 j3 j4 j5 j6 j7
              obtain ⟨k0, k1, k2, k3, k4, k5, k6, k7⟩ := KA.out w1 HB1.out
              obtain ⟨j0, j1, j2, j3, j4, j5, j6, j7⟩ := KB.out w1 HB1.out
              go_wp2_with fail
              refine (UL.out w1 HB1.out).mono ?_
              rintro e w2 ⟨rfl, hb2⟩
              have HB2 := Lib.hid (HB1.out.trans (hb2.mono HB1.out.size))
              clear hb2 k0 k1 k2 k3 k4 k5 k6 k7 j0 j1 j2 j3 j4 j5 j6 j7
              obtain ⟨k0, k1, k2, k3, k4, k5, k6, k7⟩ := KA.out w2 HB2.out
              obtain ⟨j0, j1, j2, j3, j4, j5, j6, j7⟩ := KB.out w2 HB2.out
              go_wp2_with fail
              go_ret
              exact ⟨rfl, HB0.out.trans (HB2.out.mono HB0.out.size)⟩
            | true =>
              subst hres
              go_enter Try.func6, Try.ntmps6
              go_wp2_with fail
              rw [← HWE.out]
              refine (UE.out W (Below.refl _ _)).mono ?_
              rintro e w1 ⟨rfl, hb1⟩
              have HB1 := Lib.hid hb1
              clear hb1 k0 k1 k2 k3 k4 k5 k6 k7 j0 j1 j2 j3 j4 j5 j6 j7
              obtain ⟨k0, k1, k2, k3, k4, k5, k6, k7⟩ := KA.out w1 HB1.out
              obtain ⟨j0, j1, j2, j3, j4, j5, j6, j7⟩ := KB.out w1 HB1.out
              go_wp2_with fail
              refine (UL.out w1 HB1.out).mono ?_
              rintro e w2 ⟨rfl, hb2⟩
              have HB2 := Lib.hid (HB1.out.trans (hb2.mono HB1.out.size))
              clear hb2 k0 k1 k2 k3 k4 k5 k6 k7 j0 j1 j2 j3 j4 j5 j6 j7
              obtain ⟨k0, k1, k2, k3, k4, k5, k6, k7⟩ := KA.out w2 HB2.out
              obtain ⟨j0, j1, j2, j3, j4, j5, j6, j7⟩ := KB.out w2 HB2.out
              go_wp2_with fail
              go_ret
              exact ⟨rfl, HB0.out.trans (HB2.out.mono HB0.out.size)⟩
end Go.Proofs.Ytppliiingoonlaa

/-
  A problem in memory: a row of constraints, eight cells each. Of no function of the program.
-/
namespace Go.Proofs.Ytppliiingoonlaa
open Go.RowKit
/-- Place o of block g, and the seven behind it, hold a constraint. -/
def CxAt (w : World) (g o : Nat) (c : Cx) (xu vc : Value) : Prop :=
  w.cell? ⟨g, o, none⟩ = some (.int .i64 c.k) ∧ w.cell? ⟨g, o + 1, none⟩ = some (.string c.l) ∧ w.cell? ⟨g, o + 2, none⟩ = some (.string c.r) ∧ w.cell? ⟨g, o + 3, none⟩ = some (.int .i64 c.xk) ∧
  w.cell? ⟨g, o + 4, none⟩ = some (.string c.xl) ∧ w.cell? ⟨g, o + 5, none⟩ = some xu ∧ w.cell? ⟨g, o + 6, none⟩ = some vc ∧ w.cell? ⟨g, o + 7, none⟩ = some (.int .i64 c.b)
theorem CxAt.same {w w' : World} {g o : Nat} {c : Cx} {xu vc : Value} (h : CxAt w g o c xu vc) (hs : w'.heap[g]? = w.heap[g]?) : CxAt w' g o c xu vc := by
  have k : ∀ j v, w.cell? ⟨g, j, none⟩ = some v → w'.cell? ⟨g, j, none⟩ = some v := fun j v h => (World.cell?_of_block (a := ⟨g, j, none⟩) hs).trans h
  exact ⟨k _ _ h.1, k _ _ h.2.1, k _ _ h.2.2.1, k _ _ h.2.2.2.1, k _ _ h.2.2.2.2.1, k _ _ h.2.2.2.2.2.1, k _ _ h.2.2.2.2.2.2.1, k _ _ h.2.2.2.2.2.2.2⟩
theorem CxAt.below {w w' : World} {B g o : Nat} {c : Cx} {xu vc : Value} (h : CxAt w g o c xu vc) (hb : Below B w w') (hg : g < B) : CxAt w' g o c xu vc := h.same (hb.block g hg)
theorem CxAt.lt {w : World} {g o : Nat} {c : Cx} {xu vc : Value} (h : CxAt w g o c xu vc) : g < w.heap.size := World.block_lt_of_cell? w _ h.1

/-- A slice holds the constraints, each as Q says. -/
def PrR (Q : World → Value → Value → Cx → Prop) (w : World) (v : Value) (ps : List Cx) : Prop :=
  ps.length ≤ maxI ∧ ((ps.length = 0 ∧ ∃ A m, v = .slice A 0 m) ∨ ∃ g o m, v = .slice (some ⟨g, o, none⟩) ps.length m ∧ ∀ (j : Nat) (c : Cx), ps[j]? = some c → ∃ xu vc, CxAt w g (o + j * 8) c xu vc ∧ Q w xu vc c)
theorem PrR.kept {Q : World → Value → Value → Cx → Prop} {w w' : World} {v : Value} {ps : List Cx} (h : PrR Q w v ps) (hb : Below w.heap.size w w') (hQ : ∀ xu vc c, Q w xu vc c → Q w' xu vc c) : PrR Q w' v ps := by
  obtain ⟨hl, h⟩ := h
  refine ⟨hl, h.imp id ?_⟩
  rintro ⟨g, o, m, hv, hc⟩
  refine ⟨g, o, m, hv, fun j c hj => ?_⟩
  obtain ⟨xu, vc, ha, hq⟩ := hc j c hj
  exact ⟨xu, vc, ha.below hb ha.lt, hQ _ _ _ hq⟩
theorem PrR.shape {Q : World → Value → Value → Cx → Prop} {w : World} {v : Value} {ps : List Cx} (h : PrR Q w v ps) : ∃ A m, v = .slice A ps.length m := by
  rcases h.2 with ⟨h0, A, m, hv⟩ | ⟨g, o, m, hv, _⟩
  · exact ⟨A, m, by rw [hv, h0]⟩
  · exact ⟨_, m, hv⟩
theorem PrR.at {Q : World → Value → Value → Cx → Prop} {w : World} {A : Option Addr} {n m : Nat} {ps : List Cx} (h : PrR Q w (.slice A n m) ps) {j : Nat} (hj : j < ps.length) :
    ∃ g o, A = some ⟨g, o, none⟩ ∧ ∃ c xu vc, ps[j]? = some c ∧ CxAt w g (o + j * 8) c xu vc ∧ Q w xu vc c := by
  rcases h.2 with ⟨h0, _⟩ | ⟨g, o, m', hv, hc⟩
  · omega
  · cases hv
    have hx := List.getElem?_eq_getElem hj
    obtain ⟨xu, vc, ha, hq⟩ := hc j _ hx
    exact ⟨g, o, rfl, _, xu, vc, hx, ha, hq⟩
/-- A problem that is read: an argument. -/
def PrV : World → Value → List Cx → Prop := PrR CnV
/-- .. whose trees and rows are its own. -/
def PrO : World → Value → List Cx → Prop := PrR CnO
theorem PrV.kept {w w' : World} {v : Value} {ps : List Cx} (h : PrV w v ps) (hb : Below w.heap.size w w') : PrV w' v ps := PrR.kept h hb (fun _ _ _ h => CnV.kept h hb)
theorem PrO.kept {w w' : World} {v : Value} {ps : List Cx} (h : PrO w v ps) (hb : Below w.heap.size w w') : PrO w' v ps := PrR.kept h hb (fun _ _ _ h => CnO.kept h hb)
theorem PrV.shape {w : World} {v : Value} {ps : List Cx} (h : PrV w v ps) : ps.length ≤ maxI ∧ ∃ A m, v = .slice A ps.length m := ⟨h.1, PrR.shape h⟩
theorem PrO.shape {w : World} {v : Value} {ps : List Cx} (h : PrO w v ps) : ps.length ≤ maxI ∧ ∃ A m, v = .slice A ps.length m := ⟨h.1, PrR.shape h⟩
/-- Constraints in the blocks S, no block met twice. -/
def PrT (w : World) (S : Nat → Prop) (v : Value) (ps : List Cx) : Prop :=
  ps.length ≤ maxI ∧ ((ps.length = 0 ∧ ∃ A m, v = .slice A 0 m) ∨ ∃ (g o m : Nat) (K : Nat → Nat → Prop), v = .slice (some ⟨g, o, none⟩) ps.length m ∧ S g ∧ Plain w g ∧
    (∀ j h, K j h → S h ∧ h ≠ g) ∧ (∀ i j h, K i h → K j h → i = j) ∧ ∀ (j : Nat) (c : Cx), ps[j]? = some c → ∃ xu vc, CxAt w g (o + j * 8) c xu vc ∧ CnT w (K j) xu vc c)
theorem PrT.own {w : World} {S : Nat → Prop} {v : Value} {ps : List Cx} (h : PrT w S v ps) : PrO w v ps := by
  obtain ⟨hl, h⟩ := h
  refine ⟨hl, h.imp id ?_⟩
  rintro ⟨g, o, m, K, hv, _, _, _, _, hc⟩
  refine ⟨g, o, m, hv, fun j c hj => ?_⟩
  obtain ⟨xu, vc, ha, hq⟩ := hc j c hj
  exact ⟨xu, vc, ha, hq.con⟩
theorem PrT.mono {w w' : World} {S S' : Nat → Prop} {v : Value} {ps : List Cx} (h : PrT w S v ps) (hs : ∀ g, S g → w'.heap[g]? = w.heap[g]?) (hS : ∀ g, S g → S' g) : PrT w' S' v ps := by
  obtain ⟨hl, h⟩ := h
  refine ⟨hl, h.imp id ?_⟩
  rintro ⟨g, o, m, K, hv, hg, hp, hK, hd, hc⟩
  refine ⟨g, o, m, K, hv, hS g hg, hp.same (hs g hg), fun j h hj => ⟨hS h (hK j h hj).1, (hK j h hj).2⟩, hd, fun j c hj => ?_⟩
  obtain ⟨xu, vc, ha, hq⟩ := hc j c hj
  exact ⟨xu, vc, ha.same (hs g hg), hq.mono (fun h hh => hs h (hK j h hh).1) (fun _ h => h)⟩
theorem PrT.kept {w w' : World} {S : Nat → Prop} {v : Value} {ps : List Cx} (h : PrT w S v ps) (hS : ∀ g, S g → g < w.heap.size) (hb : Below w.heap.size w w') : PrT w' S v ps :=
  h.mono (fun g hg => hb.block g (hS g hg)) (fun _ h => h)
theorem PrT.chg {w w' : World} {S S' : Nat → Prop} {v : Value} {ps : List Cx} (h : PrT w S v ps) (hS : ∀ g, S g → g < w.heap.size) (hc : Chg S' w w') (hn : ∀ g, S g → ¬ S' g) : PrT w' S v ps :=
  h.mono (fun g hg => hc.block g (hS g hg) (hn g hg)) (fun _ h => h)
theorem PrT.shape {w : World} {S : Nat → Prop} {v : Value} {ps : List Cx} (h : PrT w S v ps) : ps.length ≤ maxI ∧ ∃ A m, v = .slice A ps.length m := h.own.shape
theorem PrT.none (w : World) (S : Nat → Prop) (A : Option Addr) (m : Nat) : PrT w S (.slice A 0 m) [] := ⟨Nat.zero_le _, .inl ⟨rfl, A, m, rfl⟩⟩

/-- A problem comes back in blocks of the call's own. -/
def CopyP (ps : List Cx) (w : World) (e : Ending) (w' : World) : Prop :=
  ∃ A m, e = .returned (.agg #[.slice A ps.length m]) ∧ PrT w' (OwnB w w') (.slice A ps.length m) ps ∧ Below w.heap.size w w'
/-- .. its row. -/
def CopyL (ps : List Cx) (w : World) (e : Ending) (w' : World) : Prop :=
  ∃ A m, e = .returned (.slice A ps.length m) ∧ PrT w' (OwnB w w') (.slice A ps.length m) ps ∧ Below w.heap.size w w'
/-- .. and a bool. -/
def CopyPB (ps : List Cx) (b : Bool) (w : World) (e : Ending) (w' : World) : Prop :=
  ∃ A m, e = .returned (.tuple #[.agg #[.slice A ps.length m], .bool b]) ∧ PrT w' (OwnB w w') (.slice A ps.length m) ps ∧ Below w.heap.size w w'
/-- .. and a number. -/
def CopyPI (ps : List Cx) (n : Int) (w : World) (e : Ending) (w' : World) : Prop :=
  ∃ A m, e = .returned (.tuple #[.agg #[.slice A ps.length m], .int .i64 n]) ∧ PrT w' (OwnB w w') (.slice A ps.length m) ps ∧ Below w.heap.size w w'

/-- Strings, nodes, letters, ints, constraints. -/
def wtS (ps : List Cx) : Nat := (ps.map wtC).sum
def wtP (ps : List Cx) : Nat := ps.length + wtS ps
theorem wtS_step {ps : List Cx} {j : Nat} {c : Cx} (h : ps[j]? = some c) : wtS (ps.take (j + 1)) = wtS (ps.take j) + wtC c := by
  have hlt := (List.getElem?_eq_some_iff.1 h).1
  rw [List.take_succ_eq_append_getElem hlt, (List.getElem?_eq_some_iff.1 h).2]
  simp [wtS]
theorem wtS_take : ∀ (L : List Cx) (j : Nat), wtS (L.take j) ≤ wtS L
  | _, 0 => by simp [wtS]
  | [], _ + 1 => Nat.le_refl _
  | x :: r, j + 1 => by
    have := wtS_take r j
    simp only [wtS, List.take_succ_cons, List.map_cons, List.sum_cons] at this ⊢
    omega
theorem wtC_le {ps : List Cx} {j : Nat} {c : Cx} (h : ps[j]? = some c) : wtC c ≤ wtS ps := by
  have h1 := wtS_step h
  have h2 := wtS_take ps (j + 1)
  omega
end Go.Proofs.Ytppliiingoonlaa

/-
  An argument that is a problem, read.
-/
namespace Go.Proofs.Ytppliiingoonlaa
open Go.ChangeShapes Go.WideShapes Go.RowKit Go.Deep
instance : Inhabited Cx := ⟨zeroX⟩
section
variable {H : Type} {enc : TypeId × Value → H} {w : World}
set_option maxRecDepth 100000 in
theorem read_cn {fuel : Nat} {cs : List Value} {x : DataW H × List MemPlace} (h8 : cs.length = 8) (h : DataW.trod enc Try.prog w 0 (fun _ => true) true fuel 27 cs = some x) :
    ∃ c xu vc, cs = [.int .i64 c.k, .string c.l, .string c.r, .int .i64 c.xk, .string c.xl, xu, vc, .int .i64 c.b] ∧ CnV w xu vc c := by
  obtain ⟨v0, v1, v2, v3, v4, v5, v6, v7, rfl⟩ := list8v cs h8
  obtain ⟨xs, n, rfl, _, _, hxl, hf⟩ := DataW.trod_struct Try.underlying27 h
  have hx6 : xs.length = 6 := hxl
  have g0 := hf 0 _ rfl
  have g1 := hf 1 _ rfl
  have g2 := hf 2 _ rfl
  have g3 := hf 3 _ rfl
  have g4 := hf 4 _ rfl
  have g5 := hf 5 _ rfl
  rw [List.getElem?_eq_getElem (by omega)] at g0 g1 g2 g3 g4 g5
  obtain ⟨k, e0, _, _⟩ := DataW.trod_int Try.underlying3 g0
  obtain ⟨l, e1, _, hl⟩ := DataW.trod_string Try.underlying9 g1
  obtain ⟨rr, e2, _, hr⟩ := DataW.trod_string Try.underlying9 g2
  obtain ⟨b, e5, _, _⟩ := DataW.trod_int Try.underlying3 g5
  obtain ⟨ys, n', rfl, _, _, hyl, hy⟩ := DataW.trod_struct Try.underlying24 g3
  have hy3 : ys.length = 3 := hyl
  have q0 := hy 0 _ rfl
  have q1 := hy 1 _ rfl
  have q2 := hy 2 _ rfl
  rw [List.getElem?_eq_getElem (by omega)] at q0 q1 q2
  obtain ⟨xk, a0, _, _⟩ := DataW.trod_int Try.underlying3 q0
  obtain ⟨xl, a1, _, hxs⟩ := DataW.trod_string Try.underlying9 q1
  obtain ⟨u, f, a2, hsl⟩ := open_rows n' q2
  have ci : Try.prog.cellsOf 3 = 1 := by kernel_rfl
  have cst : Try.prog.cellsOf 9 = 1 := by kernel_rfl
  have cr : Try.prog.cellsOf 24 = 3 := by kernel_rfl
  have crs : Try.prog.cellsOf 22 = 1 := by kernel_rfl
  have cis : Try.prog.cellsOf 25 = 1 := by kernel_rfl
  have k0 : v0 = .int .i64 k := by simpa [Value.cells, ci] using e0
  have k1 : v1 = .string l := by simpa [Value.cells, cst] using e1
  have k2 : v2 = .string rr := by simpa [Value.cells, cst] using e2
  have k3 : v3 = .int .i64 xk := by simpa [Value.cells, ci, cr] using a0
  have k4 : v4 = .string xl := by simpa [Value.cells, cst, cr] using a1
  have k5 : v5 = u := by simpa [Value.cells, crs, cr] using a2
  have k7 : v7 = .int .i64 b := by simpa [Value.cells, ci] using e5
  have g4' : DataW.trod enc Try.prog w 0 (fun _ => true) true (n' + 1) 25 [v6] = some xs[4] := by
    have := g4
    simpa [Value.cells, cis] using this
  obtain ⟨cs, hcs⟩ := read_ints g4'
  subst k0 k1 k2 k3 k4 k5 k7
  unfold maxLen at hl hr hxs
  exact ⟨⟨k, l, rr, xk, xl, f, cs, b⟩, _, _, rfl, ⟨by unfold maxI; omega, by unfold maxI; omega, by unfold maxI; omega⟩, ⟨_, hsl⟩, hcs⟩
theorem cxCells : Try.prog.cellsOf 27 = 8 := by kernel_rfl

set_option maxRecDepth 100000 in
theorem read_cns {fuel : Nat} {cs : List Value} {x : DataW H × List MemPlace} (h : DataW.trod enc Try.prog w 0 (fun _ => true) true fuel 37 cs = some x) : ∃ v ps, cs = [v] ∧ PrV w v ps := by
  rcases DataW.trod_slice Try.underlying37 h with ⟨rfl, rfl⟩ | ⟨a, len, cap, elems, rest, n, rfl, rfl, hx, hb, hl, hm, hlen, hel, _, _⟩
  · exact ⟨_, [], rfl, Nat.zero_le _, .inl ⟨rfl, none, 0, rfl⟩⟩
  · by_cases h0 : len = 0
    · subst h0
      exact ⟨_, [], rfl, Nat.zero_le _, .inl ⟨rfl, _, _, rfl⟩⟩
    · have hel' : ∀ i, i < len → ∃ q : Cx, ∃ xu vc, (∀ j v, (cxA q xu vc)[j]? = some v → w.cell? (a.add (i * 8 + j)) = some v) ∧ CnV w xu vc q := fun i hi => by
        have h1 := hel i hi
        rw [List.getElem?_eq_getElem (by omega), cxCells] at h1
        obtain ⟨cs', hc, ht⟩ := Option.bind_eq_some_iff.1 h1
        obtain ⟨_, hcl, hat⟩ := World.cells?_some hc
        obtain ⟨c, xu, vc, rfl, hcn⟩ := read_cn hcl ht
        refine ⟨c, xu, vc, fun j v hj => ?_, hcn⟩
        have hj8 : j < 8 := by
          have := (Array.getElem?_eq_some_iff.1 hj).1
          simpa [cxA] using this
        have := hat j (by omega)
        rw [Go.Deep.add_add] at this
        rw [this, ← hj]
        simp [cxA]
      obtain ⟨F, hF⟩ := choose_lt hel'
      have hF0 := hF 0 (by omega)
      obtain ⟨xu0, vc0, hc0, _⟩ := hF0
      have hc00 := hc0 0 _ (by simp [cxA]; rfl)
      have hsp : a.spot = none := by
        have := spot_none hc00
        rwa [Nat.zero_mul, show a.add (0 + 0) = a by unfold Addr.add; rw [if_pos rfl]] at this
      obtain ⟨g, o, sp⟩ := a
      simp only at hsp
      subst hsp
      have hit : ((List.range len).map F).length = len := by simp
      refine ⟨_, (List.range len).map F, rfl, by rw [hit]; unfold maxLen at hm; unfold maxI; omega, .inr ⟨g, o, cap, by rw [hit], fun j c hj => ?_⟩⟩
      have hjl : j < len := by have := (List.getElem?_eq_some_iff.1 hj).1; simpa using this
      have hj2 : F j = c := by simpa [hjl] using hj
      obtain ⟨xu, vc, hcell, hcn⟩ := hF j hjl
      rw [hj2] at hcell hcn
      have k : ∀ i v, (cxA c xu vc)[i]? = some v → w.cell? ⟨g, o + j * 8 + i, none⟩ = some v := fun i v hv => by
        have := hcell i v hv
        rw [Addr.add_lit] at this
        rw [Nat.add_assoc]
        exact this
      exact ⟨xu, vc, ⟨k 0 _ rfl, k 1 _ rfl, k 2 _ rfl, k 3 _ rfl, k 4 _ rfl, k 5 _ rfl, k 6 _ rfl, k 7 _ rfl⟩, hcn⟩

set_option maxRecDepth 100000 in
/-- A problem handed in by value. -/
theorem open_pr {r : Reach} {b0 : Nat} {v : Value} {d : DataW H} {p : List MemPlace} (hv : Value.okWide Try.prog w r b0 39 v) (h : DataW.Trod enc Try.prog w 0 (fun _ => true) true 39 v d p) :
    ∃ ps u, v = .agg #[u] ∧ PrV w u ps := by
  obtain ⟨cs, rfl, hsz⟩ := okWide_struct Try.underlying39 hv
  have h1 : cs.size = 1 := hsz.trans (by kernel_rfl)
  obtain ⟨cs⟩ := cs
  obtain ⟨v0, rfl⟩ : ∃ v0, cs = [v0] := List.length_eq_one_iff.1 h1
  obtain ⟨fuel, hf⟩ := h
  obtain ⟨xs, n, rfl, _, _, hxl, hf⟩ := DataW.trod_struct Try.underlying39 hf
  have hx1 : xs.length = 1 := hxl
  have g0 := hf 0 _ rfl
  rw [List.getElem?_eq_getElem (by omega)] at g0
  obtain ⟨u, ps, e0, hp⟩ := read_cns g0
  have crs : Try.prog.cellsOf 37 = 1 := by kernel_rfl
  have k0 : v0 = u := by simpa [Value.cells, crs] using e0
  subst k0
  exact ⟨ps, _, rfl, hp⟩
theorem wtP_small {ps : List Cx} (h : wtP ps ≤ 1048576) : ∀ c ∈ ps, c.xa.size ≤ 2097152 := fun c hc => by
  obtain ⟨j, hj⟩ := List.getElem?_of_mem hc
  have h1 := wtC_le hj
  have h2 := size_wt c.xa
  unfold wtC at h1
  unfold wtP at h
  omega
end
end Go.Proofs.Ytppliiingoonlaa

/-
  A box that holds a problem. Of no function of the program.
-/
namespace Go.Proofs.Ytppliiingoonlaa
open Go.RowKit
/-- A box that holds a problem: one cell. -/
def BoxP (w : World) (g : Nat) (v : Value) : Prop := ∃ t, w.heap[g]? = some (.cells #[v] t (0, 0))
theorem BoxP.cell {w : World} {g : Nat} {v : Value} (h : BoxP w g v) : w.cell? ⟨g, 0, none⟩ = some v := by
  obtain ⟨t, h⟩ := h
  exact (cell_of_row w g 0 _ t (0, 0) h).trans rfl
theorem BoxP.lt {w : World} {g : Nat} {v : Value} (h : BoxP w g v) : g < w.heap.size := by
  obtain ⟨t, h⟩ := h
  exact (Array.getElem?_eq_some_iff.1 h).1
theorem BoxP.kept {w w' : World} {g : Nat} {v : Value} (h : BoxP w g v) (hb : Below w.heap.size w w') : BoxP w' g v := by
  have hl := h.lt
  obtain ⟨t, h⟩ := h
  exact ⟨t, (hb.block g hl).trans h⟩
theorem boxP_new (w : World) (v : Value) (t : TypeId) : BoxP (w.alloc (.cells #[v] t)) w.heap.size v := ⟨t, heap_alloc_new w _⟩
end Go.Proofs.Ytppliiingoonlaa

/-
  What the laws' own helpers answer over problems: szConstraintS, toConstraintS, eqConstraintS, szProblem, toProblem, eqProblem.
-/
namespace Go.Proofs.Ytppliiingoonlaa
open Go.RowKit
set_option maxRecDepth 100000 in
set_option maxHeartbeats 3200000 in
theorem szCS_any (ps : List Cx) (v : Value) (z : Int) (w : World) (h : PrV w v ps) (hz0 : 0 ≤ z) (hz1 : z ≤ 1048576) :
    Calls Try.prog 25 #[v, .int .i64 z] w (SzPost (wtP ps) z w) := by
  obtain ⟨hl, A, m, rfl⟩ := h.shape
  unfold maxI at hl
  have HE := Lib.hid (fun (V : World) (hb : Below w.heap.size w V) (j : Nat) (hj : j < ps.length) => PrR.at (h.kept hb) hj)
  have HWT : Hid (wtP ps = ps.length + wtS ps) := Lib.hid rfl
  clear h
  by_cases hlen : (ps.length : Int) ≤ z
  · have hneg : ¬ z - (ps.length : Int) < 0 := by omega
    go_enter Try.func25, Try.ntmps25
    go_wp2_with fail
    go_loopw [1, 5] (fun y i wr => ∃ j : Nat, i = .int .i64 j ∧ y = .int .i64 (z - ps.length - wtS (ps.take j)) ∧ (ps.length : Int) + wtS (ps.take j) ≤ z ∧ j ≤ ps.length ∧ Below w.heap.size w wr) (fun _ i _ => ps.length - (intOf i).toNat)
    case atStart => exact ⟨0, rfl, by simp [wtS], by simp [wtS]; omega, Nat.zero_le _, Below.refl _ _⟩
    case round =>
      obtain ⟨j, rfl, rfl, hle, hj, hb⟩ := hrel
      have hwz := hb.size
      have HB := Lib.hid hb
      clear hb
      by_cases hlt : j < ps.length
      · obtain ⟨g, o, rfl, c, xu, vc, hx, ha, hc⟩ := HE.out wr HB.out j hlt
        obtain ⟨A', m', B', r', rfl, rfl⟩ := hc.shape
        obtain ⟨c0, c1, c2, c3, c4, c5, c6, c7⟩ := ha
        have HS := Lib.hid (wtS_step hx)
        obtain ⟨q, hq⟩ : ∃ q, q = wtC c := ⟨_, rfl⟩
        obtain ⟨y, hy⟩ : ∃ y : Int, y = z - ps.length - wtS (ps.take j) := ⟨_, rfl⟩
        have hy0 : 0 ≤ y := by omega
        have hy1 : y ≤ 1048576 := by omega
        have HI := szC_any c _ _ y wr hc hy0 hy1
        rw [← hq] at HI HS
        rw [← hy]
        have HY := Lib.hid hy
        have HI := Lib.hid HI
        have hwt1 := wtS_take ps (j + 1)
        clear hq hy hc hx
        by_cases hfit : (q : Int) ≤ y
        · go_wp2_with fail
          refine HI.out.mono ?_
          rintro e w1 ⟨he, hb1⟩
          rw [leftOf_yes hfit] at he
          subst he
          have HB1 := Lib.hid (HB.out.trans (hb1.mono hwz))
          have hpos : 0 ≤ y - (q : Int) := by omega
          clear hb1
          go_wp2_with fail
          go_roundw
          case rel => exact ⟨j + 1, by go_num, congrArg (Value.int .i64) (by rw [HS.out, HY.out]; omega), by have := HY.out; rw [HS.out]; omega, by omega, HB1.out⟩
          case measure => simp [intOf]; omega
        · have HR : Hid (leftOf (wtP ps) z = -1) := Lib.hid (by rw [leftOf_no (by have := HY.out; have := HS.out; rw [HWT.out]; omega)])
          go_wp2_with fail
          refine HI.out.mono ?_
          rintro e w1 ⟨he, hb1⟩
          rw [leftOf_no (by omega)] at he
          subst he
          have HB1 := Lib.hid (HB.out.trans (hb1.mono hwz))
          clear hb1
          go_wp2_with fail
          go_ret
          exact ⟨congrArg (fun z : Int => Ending.returned (.int .i64 z)) HR.out.symm, HB1.out⟩
      · obtain rfl : j = ps.length := by omega
        have HT : Hid (ps.take ps.length = ps) := Lib.hid (List.take_length)
        have hle' := hle
        rw [HT.out] at hle'
        have HR : Hid (leftOf (wtP ps) z = z - ps.length - wtS (ps.take ps.length)) := Lib.hid (by rw [leftOf_yes (by rw [HWT.out]; omega), HT.out, HWT.out]; omega)
        obtain ⟨y, hy⟩ : ∃ y : Int, y = z - ps.length - wtS (ps.take ps.length) := ⟨_, rfl⟩
        rw [← hy] at HR ⊢
        clear hy hle hle' HT
        go_wp2_with fail
        go_ret
        exact ⟨congrArg (fun z : Int => Ending.returned (.int .i64 z)) HR.out.symm, HB.out⟩
  · have HR : Hid (leftOf (wtP ps) z = -1) := Lib.hid (by rw [leftOf_no (by rw [HWT.out]; omega)])
    have hneg : z - (ps.length : Int) < 0 := by omega
    go_enter Try.func25, Try.ntmps25
    go_wp2_with fail
    go_ret
    exact ⟨congrArg (fun z : Int => Ending.returned (.int .i64 z)) HR.out.symm, Below.refl _ _⟩

set_option maxRecDepth 100000 in
set_option maxHeartbeats 3200000 in
theorem szP_any (ps : List Cx) (v : Value) (z : Int) (w : World) (h : PrV w v ps) (hz0 : 0 ≤ z) (hz1 : z ≤ 1048576) :
    Calls Try.prog 10 #[.agg #[v], .int .i64 z] w (SzPost (wtP ps) z w) := by
  obtain ⟨hl, A, m, rfl⟩ := h.shape
  obtain ⟨W, hW⟩ : ∃ W, W = w.alloc (.cells #[.slice A ps.length m] 39) := ⟨_, rfl⟩
  have hb0 : Below w.heap.size w W := by rw [hW]; exact (Below.refl _ _).alloc (Nat.le_refl _) _
  have HWE := Lib.hid hW
  have HB0 := Lib.hid hb0
  have HZ := Lib.hid (szCS_any ps _ z W (h.kept hb0) hz0 hz1)
  clear hW hb0 h hl
  by_cases hfit : (wtP ps : Int) ≤ z
  · obtain ⟨q, hq⟩ : ∃ q : Int, q = z - (wtP ps : Int) := ⟨_, rfl⟩
    have HQ := Lib.hid ((leftOf_yes hfit).trans hq.symm)
    have q0 : 0 ≤ q := by omega
    have nq0 : ¬ q < 0 := by omega
    clear hq
    go_enter Try.func10, Try.ntmps10
    go_wp2_with fail
    rw [← HWE.out]
    refine HZ.out.mono ?_
    rintro e w1 ⟨he, hb1⟩
    rw [HQ.out] at he
    subst he
    have HB1 := Lib.hid (HB0.out.trans (hb1.mono HB0.out.size))
    clear hb1
    go_wp2_with fail
    go_ret
    exact ⟨congrArg (fun z : Int => Ending.returned (.int .i64 z)) HQ.out.symm, HB1.out⟩
  · have HQ := Lib.hid (leftOf_no hfit)
    go_enter Try.func10, Try.ntmps10
    go_wp2_with fail
    rw [← HWE.out]
    refine HZ.out.mono ?_
    rintro e w1 ⟨he, hb1⟩
    rw [HQ.out] at he
    subst he
    have HB1 := Lib.hid (HB0.out.trans (hb1.mono HB0.out.size))
    clear hb1
    go_wp2_with fail
    go_ret
    exact ⟨congrArg (fun z : Int => Ending.returned (.int .i64 z)) HQ.out.symm, HB1.out⟩

set_option maxRecDepth 100000 in
set_option maxHeartbeats 3200000 in
theorem eqCS_any (ps : List Cx) (v v' : Value) (w : World) (h : PrO w v ps) (h' : PrO w v' ps) :
    Calls Try.prog 28 #[v, v'] w fun e w' => e = .returned (.bool true) ∧ Below w.heap.size w w' := by
  obtain ⟨hl, A, m, rfl⟩ := h.shape
  obtain ⟨_, A', m', rfl⟩ := h'.shape
  unfold maxI at hl
  have HE := Lib.hid (fun (V : World) (hb : Below w.heap.size w V) (j : Nat) (hj : j < ps.length) => PrR.at (h.kept hb) hj)
  have HE' := Lib.hid (fun (V : World) (hb : Below w.heap.size w V) (j : Nat) (hj : j < ps.length) => PrR.at (h'.kept hb) hj)
  clear h h'
  go_enter Try.func28, Try.ntmps28
  go_wp2_with fail
  go_loopw [5] (fun i wr => ∃ j : Nat, i = .int .i64 j ∧ j ≤ ps.length ∧ Below w.heap.size w wr) (fun i _ => ps.length - (intOf i).toNat)
  case atStart => exact ⟨0, rfl, Nat.zero_le _, Below.refl _ _⟩
  case round =>
    obtain ⟨j, rfl, hj, hb⟩ := hrel
    have HB := Lib.hid hb
    have hwz := hb.size
    clear hb
    by_cases hlt : j < ps.length
    · obtain ⟨g, o, rfl, c, xu, vc, hx, ha, hc⟩ := HE.out wr HB.out j hlt
      obtain ⟨g', o', rfl, c', xu', vc', hx', ha', hc'⟩ := HE'.out wr HB.out j hlt
      rw [hx] at hx'
      cases hx'
      obtain ⟨A1, m1, B1, r1, rfl, rfl⟩ := hc.shape
      obtain ⟨A2, m2, B2, r2, rfl, rfl⟩ := hc'.shape
      obtain ⟨c0, c1, c2, c3, c4, c5, c6, c7⟩ := ha
      obtain ⟨d0, d1, d2, d3, d4, d5, d6, d7⟩ := ha'
      have HI := Lib.hid (eqC_any c _ _ _ _ wr.drew (hc.kept (Below.refl _ _).drew) (hc'.kept (Below.refl _ _).drew))
      have HBd := Lib.hid HB.out.drew
      clear hc hc' hx
      go_wp2_with fail
      go_still_tail 8, (by kernel_rfl)
      go_wp2_with fail
      refine HI.out.mono ?_
      rintro e w1 ⟨rfl, hb1⟩
      have HB1 := Lib.hid (HBd.out.trans (hb1.mono hwz))
      clear hb1
      go_wp2_with fail
      go_roundw
      case rel => exact ⟨j + 1, by go_num, by omega, HB1.out⟩
      case measure => simp [intOf]; omega
    · have hd : decide ((j : Int) < (ps.length : Int)) = false := by simp; omega
      go_wp2_with fail
      go_ret
      exact ⟨rfl, HB.out⟩

set_option maxRecDepth 100000 in
set_option maxHeartbeats 3200000 in
theorem eqP_any (ps : List Cx) (v v' : Value) (w : World) (h : PrO w v ps) (h' : PrO w v' ps) :
    Calls Try.prog 14 #[.agg #[v], .agg #[v']] w fun e w' => e = .returned (.bool true) ∧ Below w.heap.size w w' := by
  obtain ⟨hl, A, m, rfl⟩ := h.shape
  obtain ⟨_, A', m', rfl⟩ := h'.shape
  obtain ⟨W, hW⟩ : ∃ W, W = (w.alloc (.cells #[.slice A ps.length m] 44)).alloc (.cells #[.slice A' ps.length m'] 44) := ⟨_, rfl⟩
  have hb0 : Below w.heap.size w W := by rw [hW]; exact ((Below.refl _ _).alloc (Nat.le_refl _) _).alloc (by simp) _
  have HWE := Lib.hid hW
  have HB0 := Lib.hid hb0
  have HZ := Lib.hid (eqCS_any ps _ _ W (h.kept hb0) (h'.kept hb0))
  clear hW hb0 h h' hl
  go_enter Try.func14, Try.ntmps14
  go_wp2_with fail
  rw [← HWE.out]
  refine HZ.out.mono ?_
  rintro e w1 ⟨rfl, hb1⟩
  have HB1 := Lib.hid (HB0.out.trans (hb1.mono HB0.out.size))
  clear hb1
  go_wp2_with fail
  go_ret
  exact ⟨rfl, HB1.out⟩
end Go.Proofs.Ytppliiingoonlaa

/-
  What laws.toConstraintS and laws.toProblem answer: the same constraints, in new memory, no block met twice.
-/
namespace Go.Proofs.Ytppliiingoonlaa
open Go.RowKit
theorem cxInfo : (Try.prog.info? 34).map (fun i => (i.zero, i.size, i.bytes)) = some (some (.agg #[.int .i64 0, .string ⟨#[]⟩, .string ⟨#[]⟩, .int .i64 0, .string ⟨#[]⟩, .slice none 0 0, .slice none 0 0, .int .i64 0]), 8, 120) := by kernel_rfl

/-- Eight cells of a block, from o on, are written. -/
def put8o (w1 : World) (g o : Nat) (k0 k1 k2 k3 k4 k5 k6 k7 : Value) : World :=
  (((((((w1.setCell ⟨g, o, none⟩ k0).setCell ⟨g, o + 1, none⟩ k1).setCell ⟨g, o + 2, none⟩ k2).setCell ⟨g, o + 3, none⟩ k3).setCell ⟨g, o + 4, none⟩ k4).setCell ⟨g, o + 5, none⟩ k5).setCell ⟨g, o + 6, none⟩ k6).setCell ⟨g, o + 7, none⟩ k7
section
variable {w1 : World} {g o : Nat} {y : Array Value} {t : TypeId} {k0 k1 k2 k3 k4 k5 k6 k7 : Value}
theorem put8o_box (hb : w1.heap[g]? = some (.cells y t (0, 0))) : (put8o w1 g o k0 k1 k2 k3 k4 k5 k6 k7).heap[g]? = some (.cells ((((((((y.setIfInBounds o k0).setIfInBounds (o + 1) k1).setIfInBounds (o + 2) k2).setIfInBounds (o + 3) k3).setIfInBounds (o + 4) k4).setIfInBounds (o + 5) k5).setIfInBounds (o + 6) k6).setIfInBounds (o + 7) k7) t (0, 0)) := by
  have h0 := heap_setCell_same w1 g o _ _ k0 hb
  have h1 := heap_setCell_same _ g (o + 1) _ _ k1 h0
  have h2 := heap_setCell_same _ g (o + 2) _ _ k2 h1
  have h3 := heap_setCell_same _ g (o + 3) _ _ k3 h2
  have h4 := heap_setCell_same _ g (o + 4) _ _ k4 h3
  have h5 := heap_setCell_same _ g (o + 5) _ _ k5 h4
  have h6 := heap_setCell_same _ g (o + 6) _ _ k6 h5
  exact heap_setCell_same _ g (o + 7) _ _ k7 h6
theorem put8o_size : (put8o w1 g o k0 k1 k2 k3 k4 k5 k6 k7).heap.size = w1.heap.size := by simp [put8o, World.setCell]
theorem put8o_other {h : Nat} (hh : h ≠ g) : (put8o w1 g o k0 k1 k2 k3 k4 k5 k6 k7).heap[h]? = w1.heap[h]? :=
  (Below.heap_setCell _ _ _ h hh).trans ((Below.heap_setCell _ _ _ h hh).trans ((Below.heap_setCell _ _ _ h hh).trans ((Below.heap_setCell _ _ _ h hh).trans ((Below.heap_setCell _ _ _ h hh).trans ((Below.heap_setCell _ _ _ h hh).trans ((Below.heap_setCell _ _ _ h hh).trans (Below.heap_setCell _ _ _ h hh)))))))
theorem put8o_below {B : Nat} {w : World} (hb : Below B w w1) (hB : B ≤ g) : Below B w (put8o w1 g o k0 k1 k2 k3 k4 k5 k6 k7) :=
  (((((((hb.setCell (p := ⟨g, o, none⟩) hB _).setCell (p := ⟨g, o + 1, none⟩) hB _).setCell (p := ⟨g, o + 2, none⟩) hB _).setCell (p := ⟨g, o + 3, none⟩) hB _).setCell (p := ⟨g, o + 4, none⟩) hB _).setCell (p := ⟨g, o + 5, none⟩) hB _).setCell (p := ⟨g, o + 6, none⟩) hB _).setCell (p := ⟨g, o + 7, none⟩) hB _
theorem put8o_far (hb : w1.heap[g]? = some (.cells y t (0, 0))) {p : Nat} (hp : p < o ∨ o + 7 < p) : (put8o w1 g o k0 k1 k2 k3 k4 k5 k6 k7).cell? ⟨g, p, none⟩ = w1.cell? ⟨g, p, none⟩ := by
  rw [cell_of_row _ g p _ t (0, 0) (put8o_box hb), cell_of_row _ g p _ t (0, 0) hb]
  simp only [Array.getElem?_setIfInBounds]
  repeat rw [if_neg (by omega)]
end
theorem sib_ne {y : Array Value} {i j : Nat} {x : Value} (h : i ≠ j) : (y.setIfInBounds i x)[j]? = y[j]? := Array.getElem?_setIfInBounds_ne h
theorem sib_eq {y : Array Value} {i : Nat} {x : Value} (h : i < y.size) : (y.setIfInBounds i x)[i]? = some x := by simp [h]
theorem put8o_at {w1 : World} {g o : Nat} {y : Array Value} {t : TypeId} (c : Cx) (xu vc : Value) (hb : w1.heap[g]? = some (.cells y t (0, 0))) (hy : o + 8 ≤ y.size) :
    CxAt (put8o w1 g o (.int .i64 c.k) (.string c.l) (.string c.r) (.int .i64 c.xk) (.string c.xl) xu vc (.int .i64 c.b)) g o c xu vc := by
  have k := fun p => cell_of_row _ g p _ t (0, 0) (put8o_box (o := o) (k0 := .int .i64 c.k) (k1 := .string c.l) (k2 := .string c.r) (k3 := .int .i64 c.xk) (k4 := .string c.xl) (k5 := xu) (k6 := vc) (k7 := .int .i64 c.b) hb)
  refine ⟨(k o).trans ?_, (k (o + 1)).trans ?_, (k (o + 2)).trans ?_, (k (o + 3)).trans ?_, (k (o + 4)).trans ?_, (k (o + 5)).trans ?_, (k (o + 6)).trans ?_, (k (o + 7)).trans ?_⟩
  all_goals
    repeat rw [sib_ne (by omega)]
    exact sib_eq (by first | omega | (simp only [Array.size_setIfInBounds]; omega))

/-- Block g holds a row of constraints; the first j are filled in, what is beneath them lies in later blocks, part by part. -/
def FilledP (wr : World) (g : Nat) (ps : List Cx) (j m : Nat) : Prop :=
  (∃ cur : Array Value, wr.heap[g]? = some (.cells cur 34 (0, 0)) ∧ cur.size = ps.length * 8) ∧
    ∃ s : Nat → Nat, g < s 0 ∧ (∀ i, s i ≤ s (i + 1)) ∧ s j ≤ m ∧ m ≤ wr.heap.size ∧ ∀ (i : Nat) (c : Cx), i < j → ps[i]? = some c → ∃ xu vc, CxAt wr g (i * 8) c xu vc ∧ CnT wr (fun h => s i ≤ h ∧ h < s (i + 1)) xu vc c
theorem FilledP.cells {wr : World} {g : Nat} {ps : List Cx} {j m : Nat} (h : FilledP wr g ps j m) (hj : j < ps.length) :
    (∀ i, i < 8 → ∃ x, wr.cell? ⟨g, j * 8 + i, none⟩ = some x) ∧ ∀ o, wr.frozen? ⟨g, o, none⟩ = false := by
  obtain ⟨⟨cur, hh, hs⟩, _⟩ := h
  exact ⟨fun i hi => ⟨_, (cell_of_row wr g (j * 8 + i) _ _ (0, 0) hh).trans (Array.getElem?_eq_getElem (by omega))⟩, fun o => frozen_of_row wr g o _ _ hh⟩
theorem FilledP.lt {wr : World} {g : Nat} {ps : List Cx} {j m : Nat} (h : FilledP wr g ps j m) : g < wr.heap.size := by
  obtain ⟨⟨cur, hh, _⟩, _⟩ := h
  exact (Array.getElem?_eq_some_iff.1 hh).1
theorem FilledP.below {wr w1 : World} {g : Nat} {ps : List Cx} {j m : Nat} (h : FilledP wr g ps j m) (hb : Below wr.heap.size wr w1) : FilledP w1 g ps j m := by
  have hg := h.lt
  obtain ⟨⟨cur, hh, hs⟩, s, h0, hr, hj, hm, hE⟩ := h
  refine ⟨⟨cur, (hb.block g hg).trans hh, hs⟩, s, h0, hr, hj, Nat.le_trans hm hb.size, fun i c hi hx => ?_⟩
  obtain ⟨xu, vc, ha, ht⟩ := hE i c hi hx
  exact ⟨xu, vc, ha.below hb hg, ht.mono (fun g' hg' => hb.block g' (Nat.lt_of_lt_of_le hg'.2 (Nat.le_trans (rising hr hi) (Nat.le_trans hj hm)))) (fun _ h => h)⟩
theorem FilledP.step {w1 : World} {g m : Nat} {ps : List Cx} {j : Nat} {c : Cx} {xu vc : Value} (h : FilledP w1 g ps j m) (hx : ps[j]? = some c) (ht : CnT w1 (fun h => m ≤ h ∧ h < w1.heap.size) xu vc c) :
    FilledP (put8o w1 g (j * 8) (.int .i64 c.k) (.string c.l) (.string c.r) (.int .i64 c.xk) (.string c.xl) xu vc (.int .i64 c.b)) g ps (j + 1) (put8o w1 g (j * 8) (.int .i64 c.k) (.string c.l) (.string c.r) (.int .i64 c.xk) (.string c.xl) xu vc (.int .i64 c.b)).heap.size := by
  have hlt := (List.getElem?_eq_some_iff.1 hx).1
  obtain ⟨⟨cur, hh, hcs⟩, s, h0, hr, hsj, hm, hE⟩ := h
  have hgs : ∀ i, g < s i := fun i => Nat.lt_of_lt_of_le h0 (rising hr (Nat.zero_le i))
  have hsz := put8o_size (w1 := w1) (g := g) (o := j * 8) (k0 := .int .i64 c.k) (k1 := .string c.l) (k2 := .string c.r) (k3 := .int .i64 c.xk) (k4 := .string c.xl) (k5 := xu) (k6 := vc) (k7 := .int .i64 c.b)
  refine ⟨⟨_, put8o_box hh, by simpa using hcs⟩, cutAt s j w1.heap.size, by rw [cutAt_le (Nat.zero_le _)]; exact h0, fun i => ?_, by rw [cutAt_gt (Nat.lt_succ_self _), hsz]; exact Nat.le_refl _, Nat.le_refl _, fun i c' hi hx' => ?_⟩
  · have := hr i
    by_cases e1 : i + 1 ≤ j
    · rw [cutAt_le (by omega), cutAt_le e1]; exact this
    · rw [cutAt_gt (by omega : j < i + 1)]
      by_cases e2 : i ≤ j
      · rw [cutAt_le e2]
        have := rising hr e2
        omega
      · rw [cutAt_gt (by omega)]; exact Nat.le_refl _
  by_cases e : i = j
  · subst e
    rw [hx] at hx'
    cases hx'
    exact ⟨xu, vc, put8o_at c xu vc hh (by omega), ht.mono (fun h hh => put8o_other (by have := hgs i; omega)) (fun h hh => ⟨by rw [cutAt_le (Nat.le_refl _)]; omega, by rw [cutAt_gt (Nat.lt_succ_self _)]; exact hh.2⟩)⟩
  · obtain ⟨xu', vc', ha, ht'⟩ := hE i c' (by omega) hx'
    have f : ∀ p, p < 8 → ∀ v, w1.cell? ⟨g, i * 8 + p, none⟩ = some v → (put8o w1 g (j * 8) (.int .i64 c.k) (.string c.l) (.string c.r) (.int .i64 c.xk) (.string c.xl) xu vc (.int .i64 c.b)).cell? ⟨g, i * 8 + p, none⟩ = some v := fun p hp v hv => (put8o_far hh (by omega)).trans hv
    obtain ⟨a0, a1, a2, a3, a4, a5, a6, a7⟩ := ha
    exact ⟨xu', vc', ⟨f 0 (by omega) _ a0, f 1 (by omega) _ a1, f 2 (by omega) _ a2, f 3 (by omega) _ a3, f 4 (by omega) _ a4, f 5 (by omega) _ a5, f 6 (by omega) _ a6, f 7 (by omega) _ a7⟩,
      ht'.mono (fun h hh => put8o_other (by have := hgs i; omega)) (fun h hh => ⟨by rw [cutAt_le (by omega)]; exact hh.1, by rw [cutAt_le (by omega)]; exact hh.2⟩)⟩
theorem toP_end {w wr : World} {ps : List Cx} (hl : ps.length ≤ maxI) (hF : FilledP wr w.heap.size ps ps.length wr.heap.size) (hb : Below w.heap.size w wr) : CopyL ps w (.returned (.slice (some ⟨w.heap.size, 0, none⟩) ps.length ps.length)) wr := by
  have hg := hF.lt
  obtain ⟨⟨cur, hh, hcs⟩, s, h0, hr, hsj, hm, hE⟩ := hF
  have hgs : ∀ i, w.heap.size < s i := fun i => Nat.lt_of_lt_of_le h0 (rising hr (Nat.zero_le i))
  refine ⟨_, _, rfl, ⟨hl, .inr ⟨w.heap.size, 0, _, fun j h => j < ps.length ∧ s j ≤ h ∧ h < s (j + 1), rfl, ⟨Nat.le_refl _, hg⟩, ⟨cur, _, hh⟩, fun j h hj => ?_, fun i j h hi hj => ?_, fun j c hx => ?_⟩⟩, hb⟩
  · have h1 := hgs j
    have h2 := rising hr (show j + 1 ≤ ps.length from hj.1)
    exact ⟨⟨by omega, by omega⟩, by omega⟩
  · by_cases e : i = j
    · exact e
    · by_cases e2 : i < j
      · have := rising hr (show i + 1 ≤ j from e2)
        omega
      · have := rising hr (show j + 1 ≤ i by omega)
        omega
  · obtain ⟨xu, vc, ha, ht⟩ := hE j c (List.getElem?_eq_some_iff.1 hx).1 hx
    refine ⟨xu, vc, by rw [Nat.zero_add]; exact ha, ht.mono (fun _ _ => rfl) (fun h hh => ⟨(List.getElem?_eq_some_iff.1 hx).1, hh.1, hh.2⟩)⟩

set_option maxRecDepth 100000 in
set_option maxHeartbeats 3200000 in
theorem toCS_any (ps : List Cx) (v : Value) (w : World) (h : PrV w v ps) (hn : wtP ps ≤ 2097152) :
    Calls Try.prog 26 #[v] w (CopyL ps w) := by
  obtain ⟨i0, hi, hz0, hz1, hz2⟩ := info_parts cxInfo
  obtain ⟨hl, A, m, rfl⟩ := h.shape
  have hlen : ps.length ≤ 2097152 := by unfold wtP at hn; omega
  have HE := Lib.hid (fun (V : World) (hb : Below w.heap.size w V) (j : Nat) (hj : j < ps.length) => PrR.at (h.kept hb) hj)
  have HWT := Lib.hid (fun (j : Nat) (c : Cx) (hx : ps[j]? = some c) => (by have := wtC_le hx; unfold wtP at hn; omega : wtC c ≤ 2097152))
  have HL := Lib.hid hl
  clear h hn
  go_enter Try.func26, Try.ntmps26
  go_wp2_with (at_make; refine wpList_make_full _ rfl _ _ 42 rfl w.heap.size 34 i0 _ 8 Try.underlying42 hi hz0 hz1 _ _ _ _ ps.length rfl rfl rfl rfl (by rw [hz2]; omega) (by unfold maxLen; omega) (Nat.le_refl _) ?_; intro w1 hown hgr)
  have hF0 : FilledP w1 w.heap.size ps 0 w1.heap.size ∧ Below w.heap.size w w1 := by
    have hsz : w.heap.size < w1.heap.size := by
      rcases hown.2 with ⟨e, _⟩ | ⟨g, cap, cur, e, _, hh, _, _, hcs, _⟩
      · cases e
      · cases e
        exact (Array.getElem?_eq_some_iff.1 hh).1
    refine ⟨⟨?_, fun _ => w.heap.size + 1, Nat.lt_succ_self _, fun _ => Nat.le_refl _, hsz, Nat.le_refl _, fun i c hi => absurd hi (Nat.not_lt_zero _)⟩, ⟨hgr.os, hgr.tape, hgr.output, hgr.size, fun k hk => hgr.block k hk (fun e => by cases e)⟩⟩
    rcases hown.2 with ⟨e, _⟩ | ⟨g, cap, cur, e, _, hh, _, _, hcs, _⟩
    · cases e
    · cases e
      exact ⟨cur, hh, hcs⟩
  obtain ⟨hf0, hb0⟩ := hF0
  clear hown hgr hl
  go_loopw [4] (fun i wr => ∃ j : Nat, i = .int .i64 j ∧ j ≤ ps.length ∧ FilledP wr w.heap.size ps j wr.heap.size ∧ Below w.heap.size w wr) (fun i _ => ps.length - (intOf i).toNat)
  case atStart => exact ⟨0, rfl, Nat.zero_le _, hf0, hb0⟩
  case round =>
    obtain ⟨j, rfl, hj, hfil, hb⟩ := hrel
    have HF := Lib.hid hfil
    have HB := Lib.hid hb
    have hwz := hb.size
    clear hfil hb hf0 hb0
    by_cases hlt : j < ps.length
    · obtain ⟨g, o, rfl, c, xu, vc, hx, ha, hc⟩ := HE.out wr HB.out j hlt
      obtain ⟨A', m', B', r', rfl, rfl⟩ := hc.shape
      obtain ⟨c0, c1, c2, c3, c4, c5, c6, c7⟩ := ha
      have HI := Lib.hid (toC_any c _ _ wr hc (HWT.out j c hx))
      have HX := Lib.hid hx
      clear hc hx
      go_wp2_with fail
      refine HI.out.mono ?_
      rintro e w2 hp
      obtain ⟨A2, m2, B2, r2, rfl, ht2, hb2⟩ := hp.shape
      have HF2 := Lib.hid (HF.out.below hb2)
      obtain ⟨hcl, hfr⟩ := HF2.out.cells hlt
      obtain ⟨x0, b0⟩ := hcl 0 (by omega)
      obtain ⟨x1, b1⟩ := hcl 1 (by omega)
      obtain ⟨x2, b2⟩ := hcl 2 (by omega)
      obtain ⟨x3, b3⟩ := hcl 3 (by omega)
      obtain ⟨x4, b4⟩ := hcl 4 (by omega)
      obtain ⟨x5, b5⟩ := hcl 5 (by omega)
      obtain ⟨x6, b6⟩ := hcl 6 (by omega)
      obtain ⟨x7, b7⟩ := hcl 7 (by omega)
      rw [Nat.add_zero] at b0
      have f0 := hfr (j * 8)
      have f1 := hfr (j * 8 + 1)
      have f2 := hfr (j * 8 + 2)
      have f3 := hfr (j * 8 + 3)
      have f4 := hfr (j * 8 + 4)
      have f5 := hfr (j * 8 + 5)
      have f6 := hfr (j * 8 + 6)
      have f7 := hfr (j * 8 + 7)
      have HS := Lib.hid (HF2.out.step HX.out ht2)
      have HB2 := Lib.hid (put8o_below (o := j * 8) (k0 := .int .i64 c.k) (k1 := .string c.l) (k2 := .string c.r) (k3 := .int .i64 c.xk) (k4 := .string c.xl) (k5 := .slice A2 c.xa.items.length m2) (k6 := .slice B2 c.cs.length r2) (k7 := .int .i64 c.b) (HB.out.trans (hb2.mono hwz)) (Nat.le_refl w.heap.size))
      unfold put8o at HS HB2
      clear hfr hcl ht2 hb2 hp
      go_wp2_with fail
      go_roundw
      case rel => exact ⟨j + 1, by go_num, by omega, HS.out, HB2.out⟩
      case measure => simp [intOf]; omega
    · obtain rfl : j = ps.length := by omega
      go_wp2_with fail
      go_ret
      exact toP_end HL.out HF.out HB.out

theorem copyP_end {w X : World} {r : Nat} {y : Array Value} {t : TypeId} {ps : List Cx} {A : Option Addr} {m : Nat} (hr : w.heap.size ≤ r) (hb : X.heap[r]? = some (.cells y t (0, 0))) (hy : y.size = 1) (ht : PrT X (fun h => w.heap.size ≤ h ∧ h < X.heap.size ∧ h ≠ r) (.slice A ps.length m) ps) (hbx : Below w.heap.size w X) :
    (X.setCell ⟨r, 0, none⟩ (.slice A ps.length m)).cell? ⟨r, 0, none⟩ = some (.slice A ps.length m) ∧ PrT (X.setCell ⟨r, 0, none⟩ (.slice A ps.length m)) (OwnB w (X.setCell ⟨r, 0, none⟩ (.slice A ps.length m))) (.slice A ps.length m) ps ∧ Below w.heap.size w (X.setCell ⟨r, 0, none⟩ (.slice A ps.length m)) := by
  have hc := cell_of_row X r 0 y t (0, 0) hb
  rw [Array.getElem?_eq_getElem (by omega)] at hc
  refine ⟨World.cell?_setCell_same _ _ _ hc, ht.mono (fun g hg => Below.heap_setCell _ _ _ g (by simp; exact hg.2.2)) (fun g hg => ⟨hg.1, by simpa [World.setCell] using hg.2.1⟩), hbx.setCell (p := ⟨r, 0, none⟩) hr _⟩

set_option maxRecDepth 100000 in
set_option maxHeartbeats 3200000 in
theorem toP_any (ps : List Cx) (v : Value) (w : World) (h : PrV w v ps) (hn : wtP ps ≤ 2097152) :
    Calls Try.prog 12 #[.agg #[v]] w (CopyP ps w) := by
  obtain ⟨hl, A, m, rfl⟩ := h.shape
  obtain ⟨W, hW⟩ : ∃ W, W = ((w.alloc (.cells #[.slice A ps.length m] 39)).alloc (.cells #[.slice none 0 0] 44)).alloc (.cells #[.slice none 0 0] 44) := ⟨_, rfl⟩
  have hb0 : Below w.heap.size w W := by rw [hW]; exact (((Below.refl _ _).alloc (Nat.le_refl _) _).alloc (by simp) _).alloc (by simp; omega) _
  have hzW : W.heap.size = w.heap.size + 1 + 1 + 1 := by rw [hW]; simp
  have hr1 : W.heap[w.heap.size + 1]? = some (.cells #[.slice none 0 0] 44 (0, 0)) := by
    rw [hW]
    refine (Below.heap_alloc _ _ _ (by simp)).trans ?_
    have := heap_alloc_new (w.alloc (.cells #[.slice A ps.length m] 39)) (.cells #[.slice none 0 0] 44)
    rw [World.size_alloc] at this
    exact this
  have hr2 : W.heap[w.heap.size + 1 + 1]? = some (.cells #[.slice none 0 0] 44 (0, 0)) := by
    rw [hW]
    have := heap_alloc_new ((w.alloc (.cells #[.slice A ps.length m] 39)).alloc (.cells #[.slice none 0 0] 44)) (.cells #[.slice none 0 0] 44)
    rw [World.size_alloc, World.size_alloc] at this
    exact this
  have HWE := Lib.hid hW
  have HB0 := Lib.hid hb0
  have HZW := Lib.hid hzW
  have HR1 := Lib.hid hr1
  have HR2 := Lib.hid hr2
  have HT := Lib.hid (toCS_any ps _ W (h.kept hb0) hn)
  clear hW hb0 hzW hr1 hr2 h hl
  go_enter Try.func12, Try.ntmps12
  go_wp2_with fail
  rw [← HWE.out]
  refine HT.out.mono ?_
  rintro e w1 ⟨A1, m1, rfl, ht1, hb1⟩
  have hg1 := hb1.size
  rw [HZW.out] at hg1
  have h2 := (hb1.block (w.heap.size + 1 + 1) (by have := HZW.out; omega)).trans HR2.out
  have h1 := (hb1.block (w.heap.size + 1) (by have := HZW.out; omega)).trans HR1.out
  have c2 := (cell_of_row w1 _ 0 _ _ (0, 0) h2).trans (rfl : _ = some (Value.slice none 0 0))
  have f2 := frozen_of_row w1 _ 0 _ _ h2
  have c1 := (cell_of_row w1 _ 0 _ _ (0, 0) h1).trans (rfl : _ = some (Value.slice none 0 0))
  have f1 := frozen_of_row w1 _ 0 _ _ h1
  obtain ⟨X, hX⟩ : ∃ X, X = w1.setCell ⟨w.heap.size + 1 + 1, 0, none⟩ (.slice A1 ps.length m1) := ⟨_, rfl⟩
  have hx1 : X.heap[w.heap.size + 1]? = some (.cells #[.slice none 0 0] 44 (0, 0)) := by rw [hX, Below.heap_setCell _ _ _ _ (by simp)]; exact h1
  have hxt : PrT X (fun h => w.heap.size ≤ h ∧ h < X.heap.size ∧ h ≠ w.heap.size + 1) (.slice A1 ps.length m1) ps := ht1.mono (fun g hg => by
    have := hg.1
    rw [HZW.out] at this
    rw [hX, Below.heap_setCell _ _ _ _ (by simp; omega)]) (fun g hg => by
    have h3 := hg.1
    have h4 := hg.2
    rw [HZW.out] at h3
    refine ⟨by omega, ?_, by omega⟩
    rw [hX]
    simpa [World.setCell] using h4)
  have hxb : Below w.heap.size w X := by rw [hX]; exact (HB0.out.trans (hb1.mono HB0.out.size)).setCell (p := ⟨w.heap.size + 1 + 1, 0, none⟩) (by simp; omega) _
  have hfin := copyP_end (by omega) hx1 rfl hxt hxb
  rw [hX] at hfin
  obtain ⟨k0, k1, k2⟩ := hfin
  have HK1 := Lib.hid k1
  have HK2 := Lib.hid k2
  clear ht1 hb1 h1 h2 hx1 hxt hxb hX k1 k2
  go_wp2_with fail
  exact bodyPost_ret (v := .agg #[.slice A1 ps.length m1]) (by simp [results, Try.results12, go_sem, k0]) rfl ⟨_, _, rfl, HK1.out, HK2.out⟩
end Go.Proofs.Ytppliiingoonlaa

/-
  When two problems hold the same. Of no function of the program.
-/
namespace Go.Proofs.Ytppliiingoonlaa
open Go.RowKit

def sameP : List Cx → List Cx → Bool
  | [], [] => true
  | a :: r, b :: s => sameC a b && sameP r s
  | _, _ => false
theorem sameP_len : ∀ {ps qs : List Cx}, ps.length ≠ qs.length → sameP ps qs = false
  | [], [], h => absurd rfl h
  | [], _ :: _, _ => rfl
  | _ :: _, [], _ => rfl
  | a :: r, b :: s, h => by
    rw [sameP, sameP_len (fun e => h (by simp [e]))]
    simp
theorem sameP_no : ∀ {ps qs : List Cx} {j : Nat} {a b : Cx}, ps[j]? = some a → qs[j]? = some b → sameC a b = false → sameP ps qs = false
  | [], _, j, _, _, h, _, _ => by simp at h
  | _ :: _, [], j, _, _, _, h, _ => by simp at h
  | x :: r, y :: s, 0, a, b, ha, hb, h => by
    simp at ha hb
    subst ha hb
    rw [sameP, h]
    rfl
  | x :: r, y :: s, j + 1, a, b, ha, hb, h => by
    rw [List.getElem?_cons_succ] at ha hb
    rw [sameP, sameP_no ha hb h]
    simp
theorem sameP_all : ∀ {ps qs : List Cx}, ps.length = qs.length → (∀ (j : Nat) (a b : Cx), ps[j]? = some a → qs[j]? = some b → sameC a b = true) → sameP ps qs = true
  | [], [], _, _ => rfl
  | [], _ :: _, h, _ => by simp at h
  | _ :: _, [], h, _ => by simp at h
  | x :: r, y :: s, h, hA => by
    rw [sameP, hA 0 x y rfl rfl, sameP_all (by simpa using h) (fun j a b ha hb => hA (j + 1) a b (by simpa using ha) (by simpa using hb))]
    rfl
theorem sameRx_self (k : Int) (l : ByteArray) (a : Fr) : sameRx k k l l a a = true := by simp [sameRx]
theorem sameC_self (c : Cx) : sameC c c = true := by
  unfold sameC
  rw [sameRx_self]
  simp
theorem sameP_self : ∀ ps : List Cx, sameP ps ps = true
  | [] => rfl
  | c :: r => by rw [sameP, sameC_self, sameP_self r]; rfl
/-- The first j are the same. -/
def sameTo (ps qs : List Cx) (j : Nat) : Prop := ∀ (i : Nat) (a b : Cx), i < j → ps[i]? = some a → qs[i]? = some b → sameC a b = true
theorem sameTo.step {ps qs : List Cx} {j : Nat} {a b : Cx} (h : sameTo ps qs j) (ha : ps[j]? = some a) (hb : qs[j]? = some b) (hc : sameC a b = true) : sameTo ps qs (j + 1) := fun i x y hi hx hy => by
  by_cases e : i = j
  · subst e
    rw [ha] at hx
    rw [hb] at hy
    cases hx
    cases hy
    exact hc
  · exact h i x y (by omega) hx hy
end Go.Proofs.Ytppliiingoonlaa

/-
  laws.FnExactEqualProblem answers true at every two, where both sides answer alike.
-/
namespace Go.Proofs.Ytppliiingoonlaa
open Go.RowKit

set_option maxRecDepth 100000 in
set_option maxHeartbeats 6400000 in
theorem qxLE_law (a b : List Cx) (v : Value) (z : Value) (y : Bool) (w : World) (h : PrV w v a) (h' : PrV w z b) (HS0 : wtP a ≤ 1048576 → ∀ (V : World) (u : Value) (t : Value), Below w.heap.size w V → PrO V u a → PrO V t b → Calls Try.prog 11 #[.agg #[u], .agg #[t]] V fun e w' => e = .returned (.bool y) ∧ Below V.heap.size V w') (HI0 : wtP a ≤ 1048576 → ∀ (V : World) (u : Value) (t : Value) (S S' : Nat → Prop), Below w.heap.size w V → PrT V S u a → PrT V S' t b → (∀ g, S g → g < V.heap.size) → (∀ g, S' g → g < V.heap.size) → (∀ g, S g → ¬ S' g) → Calls Try.prog 13 #[.agg #[u], .agg #[t]] V fun e w' => e = .returned (.bool y) ∧ Below V.heap.size V w') :
    Calls Try.prog 4 #[.agg #[v], .agg #[z]] w fun e w' => e = .returned (.bool true) ∧ Below w.heap.size w w' := by
  obtain ⟨hlA, A, m, rfl⟩ := h.shape
  obtain ⟨hlA', A', m', rfl⟩ := h'.shape
  obtain ⟨W1, hW1⟩ : ∃ W1, W1 = w.alloc (.cells #[.slice A a.length m] 39) := ⟨_, rfl⟩
  obtain ⟨W, hW⟩ : ∃ W, W = W1.alloc (.cells #[.slice A' b.length m'] 39) := ⟨_, rfl⟩
  have hb1 : Below w.heap.size w W1 := by rw [hW1]; exact (Below.refl _ _).alloc (Nat.le_refl _) _
  have hb12 : Below W1.heap.size W1 W := by rw [hW]; exact (Below.refl _ _).alloc (Nat.le_refl _) _
  have hz1 : W1.heap.size = w.heap.size + 1 := by rw [hW1]; simp
  have hb0 := hb1.trans (hb12.mono hb1.size)
  have hbx : BoxP W w.heap.size (.slice A a.length m) := BoxP.kept (by rw [hW1]; exact boxP_new w _ _) hb12
  have hby : BoxP W (w.heap.size + 1) (.slice A' b.length m') := by rw [hW, ← hz1]; exact boxP_new W1 _ _
  rw [hW1] at hW
  have HWE := Lib.hid hW
  have HB0 := Lib.hid hb0
  have HCX := Lib.hid (fun (V : World) (hb : Below W.heap.size W V) => (hbx.kept hb).cell)
  have HCY := Lib.hid (fun (V : World) (hb : Below W.heap.size W V) => (hby.kept hb).cell)
  have HSZ := Lib.hid (szP_any a _ 1048576 W (h.kept hb0) (by omega) (by omega))
  have hcW := hbx.cell
  rw [hW] at hcW
  have c0 := hcW
  clear hcW
  by_cases hfit : wtP a ≤ 1048576
  · have HTA := Lib.hid (fun (V : World) (hb : Below W.heap.size W V) => toP_any a _ V (h.kept (hb0.trans (hb.mono hb0.size))) (by omega))
    have HS := Lib.hid (fun (V : World) (u : Value) (t : Value) (hb : Below W.heap.size W V) hc hc' => HS0 hfit V u t (hb0.trans (hb.mono hb0.size)) hc hc')
    have HI := Lib.hid (fun (V : World) (u : Value) (t : Value) (S S' : Nat → Prop) (hb : Below W.heap.size W V) hc hc' h1 h2 h3 => HI0 hfit V u t S S' (hb0.trans (hb.mono hb0.size)) hc hc' h1 h2 h3)
    obtain ⟨q, hq⟩ : ∃ q : Int, q = 1048576 - (wtP a : Int) := ⟨_, rfl⟩
    have HQ := Lib.hid ((leftOf_yes (m := wtP a) (z := 1048576) (by omega)).trans hq.symm)
    have hq0 : ¬ q < 0 := by omega
    have HZ2 := Lib.hid (fun (V : World) (hb : Below W.heap.size W V) => szP_any b _ q V (h'.kept (hb0.trans (hb.mono hb0.size))) (by omega) (by omega))
    have hny : (y != y) = false := bne_self_eq_false _
    by_cases hfit2 : (wtP b : Int) ≤ q
    · have HTB := Lib.hid (fun (V : World) (hb : Below W.heap.size W V) => toP_any b _ V (h'.kept (hb0.trans (hb.mono hb0.size))) (by omega))
      obtain ⟨q2, hq2⟩ : ∃ q2 : Int, q2 = q - (wtP b : Int) := ⟨_, rfl⟩
      have HQ2 := Lib.hid ((leftOf_yes hfit2).trans hq2.symm)
      have hq20 : ¬ q2 < 0 := by omega
      clear hW hW1 hb0 hb1 hb12 hz1 hbx hby h h' HS0 HI0 hfit hfit2 hq hq2
      go_enter Try.func4, Try.ntmps4
      go_wp2_with fail
      rw [← HWE.out]
      refine HSZ.out.mono ?_
      rintro e w1 ⟨he, hb1⟩
      rw [HQ.out] at he
      subst he
      have HB1 := Lib.hid hb1
      clear hb1 c0
      have c0 := HCY.out w1 HB1.out
      go_wp2_with fail
      refine (HZ2.out w1 HB1.out).mono ?_
      rintro e w2 ⟨he, hb2⟩
      rw [HQ2.out] at he
      subst he
      have HB2 := Lib.hid (HB1.out.trans (hb2.mono HB1.out.size))
      clear hb2 c0
      go_wp2_with fail
      have HK8 : Hid (∀ X, Below w2.heap.size w2 X → X.cell? ⟨w.heap.size, 0, none⟩ = some (.slice A a.length m) ∧ X.cell? ⟨w.heap.size + 1, 0, none⟩ = some (.slice A' b.length m')) := Lib.hid (fun X hb => by
        have c0 := HCX.out X (HB2.out.trans (hb.mono HB2.out.size))
        have d0 := HCY.out X (HB2.out.trans (hb.mono HB2.out.size))
        exact ⟨c0, d0⟩)
      have HTa := Lib.hid (fun (X : World) (hb : Below w2.heap.size w2 X) => HTA.out X (HB2.out.trans (hb.mono HB2.out.size)))
      have HTb := Lib.hid (fun (X : World) (hb : Below w2.heap.size w2 X) => HTB.out X (HB2.out.trans (hb.mono HB2.out.size)))
      have HSk := Lib.hid (fun (X : World) (u : Value) (t : Value) (hb : Below w2.heap.size w2 X) hc hc' => HS.out X u t (HB2.out.trans (hb.mono HB2.out.size)) hc hc')
      have hbw : Below w2.heap.size w2 w2 := Below.refl _ _
      go_region_held3 (fun X => X.cell? ⟨w.heap.size, 0, none⟩ = some (.slice A a.length m) ∧ X.cell? ⟨w.heap.size + 1, 0, none⟩ = some (.slice A' b.length m')) (with_reducible first | exact HK8.out _ hbw | exact HK8.out _ hbw.drew | exact HK8.out _ hbw.drew.drew | fail) (first
        | (go_at_call 12; (with_reducible refine (HTa.out _ ?hq1).mono ?_); (case hq1 => with_reducible first | exact hbw | exact hbw.drew | exact hbw.drew.drew); rintro e wa ⟨A7, m7, rfl, ht7, hb7⟩; (with_reducible first | (have hbw := hbw.trans (hb7.mono hbw.size)) | (have hbw := hbw.drew.trans (hb7.mono hbw.drew.size)) | (have hbw := hbw.drew.drew.trans (hb7.mono hbw.drew.drew.size))); clear hb7; have hct := Lib.hid (fun (X : World) (hb : Below wa.heap.size wa X) => ht7.own.kept hb); clear ht7; have hba := Below.refl wa.heap.size wa)
        | (go_at_call 12; (with_reducible refine (HTb.out _ ?hq1).mono ?_); (case hq1 => with_reducible first | exact hbw | exact hbw.drew | exact hbw.drew.drew); rintro e wb ⟨A9, m9, rfl, ht9, hb8⟩; (with_reducible first | (have hbw := hbw.trans (hb8.mono hbw.size); have hba := hba.trans (hb8.mono hba.size)) | (have hbw := hbw.drew.trans (hb8.mono hbw.drew.size); have hba := hba.drew.trans (hb8.mono hba.drew.size)) | (have hbw := hbw.drew.drew.trans (hb8.mono hbw.drew.drew.size); have hba := hba.drew.drew.trans (hb8.mono hba.drew.drew.size))); clear hb8; have hcu := Lib.hid (fun (X : World) (hb : Below wb.heap.size wb X) => ht9.own.kept hb); clear ht9; have hbb := Below.refl wb.heap.size wb)
        | (go_at_call 11; (with_reducible refine (HSk.out _ _ _ ?hq1 ?hq2 ?hq3).mono ?_); (case hq1 => with_reducible first | exact hbw | exact hbw.drew); (case hq2 => with_reducible first | exact hct.out _ hba | exact hct.out _ hba.drew); (case hq3 => with_reducible first | exact hcu.out _ hbb | exact hcu.out _ hbb.drew); rintro e wc ⟨rfl, hb9⟩; (with_reducible first | (have hbw := hbw.trans (hb9.mono hbw.size)) | (have hbw := hbw.drew.trans (hb9.mono hbw.drew.size))); clear hb9 hct hba hcu hbb))
      have HB5 := Lib.hid (HB2.out.trans (hbw.mono HB2.out.size))
      clear hbw
      clear HK8 HTa HTb HSk
      have c0 := HCX.out wc HB5.out
      go_wp2_with fail
      refine (HTA.out wc HB5.out).mono ?_
      rintro e w6 ⟨A6, m6, rfl, ht6, hb6⟩
      have HB6 := Lib.hid (HB5.out.trans (hb6.mono HB5.out.size))
      obtain ⟨W7, hW7⟩ : ∃ W7, W7 = w6.alloc (.cells #[.slice A6 a.length m6] 44) := ⟨_, rfl⟩
      have hb67 : Below w6.heap.size w6 W7 := by rw [hW7]; exact (Below.refl _ _).alloc (Nat.le_refl _) _
      have hz67 : W7.heap.size = w6.heap.size + 1 := by rw [hW7]; simp
      have hbx7 : BoxP W7 w6.heap.size (.slice A6 a.length m6) := by rw [hW7]; exact boxP_new w6 _ _
      have ht67 := ht6.kept (fun g hg => hg.2) hb67
      have HT6 := Lib.hid ht67
      have HOa := Lib.hid hb6.size
      have HB7 := Lib.hid (HB6.out.trans (hb67.mono HB6.out.size))
      have HX7 := Lib.hid (fun (V : World) (hb : Below W7.heap.size W7 V) => (hbx7.kept hb).cell)
      have HZ7 := Lib.hid hz67
      have HW7 := Lib.hid hW7
      clear ht6 hb6 c0 hW7 hb67 hbx7 ht67 hz67
      have d0 := HCY.out W7 HB7.out
      rw [HW7.out] at d0
      go_wp2_with fail
      rw [← HW7.out]
      refine (HTB.out W7 HB7.out).mono ?_
      rintro e w8 ⟨A8, m8, rfl, ht8, hb8⟩
      have HB78 := Lib.hid hb8
      have HB8 := Lib.hid (HB7.out.trans (hb8.mono HB7.out.size))
      obtain ⟨W9, hW9⟩ : ∃ W9, W9 = w8.alloc (.cells #[.slice A8 b.length m8] 44) := ⟨_, rfl⟩
      have hb89 : Below w8.heap.size w8 W9 := by rw [hW9]; exact (Below.refl _ _).alloc (Nat.le_refl _) _
      have hbx9 : BoxP W9 w8.heap.size (.slice A8 b.length m8) := by rw [hW9]; exact boxP_new w8 _ _
      have hb79 := hb8.trans (hb89.mono hb8.size)
      have HT8 := Lib.hid (ht8.kept (fun g hg => hg.2) hb89)
      have HT69 := Lib.hid (HT6.out.kept (fun g hg => Nat.lt_of_lt_of_le hg.2 (by have := HZ7.out; omega)) hb79)
      have HB9 := Lib.hid (HB8.out.trans (hb89.mono HB8.out.size))
      have HX9 := Lib.hid (fun (V : World) (hb : Below W9.heap.size W9 V) => (hbx9.kept hb).cell)
      have HX79 := Lib.hid (fun (V : World) (hb : Below W9.heap.size W9 V) => HX7.out V (hb79.trans (hb.mono hb79.size)))
      have HS9 := Lib.hid (show w8.heap.size ≤ W9.heap.size from hb89.size)
      have HS8 := Lib.hid hb8.size
      have HW9 := Lib.hid hW9
      clear ht8 hb8 d0 hW9 hb89 hbx9 hb79
      have hk7 := HX79.out W9 (Below.refl _ _)
      rw [HW9.out] at hk7
      have c0 := hk7
      clear hk7
      go_wp2_with fail
      rw [← HW9.out]
      refine (HI.out W9 _ _ (OwnB wc w6) (OwnB W7 w8) HB9.out HT69.out HT8.out (fun g hg => by have h1 := hg.2; have := HZ7.out; have := HS8.out; have := HS9.out; omega) (fun g hg => by have h1 := hg.2; have := HS9.out; omega) (fun g hg hg' => by have h1 := hg.2; have h2 := hg'.1; have := HZ7.out; omega)).mono ?_
      rintro e wd ⟨rfl, hbd⟩
      have HB9d := Lib.hid hbd
      have HBd := Lib.hid (HB9.out.trans (hbd.mono HB9.out.size))
      have HTAd := Lib.hid (HT69.out.own.kept hbd)
      have HTBd := Lib.hid (HT8.out.own.kept hbd)
      clear hbd c0
      go_wp2_with fail
      have HKA : Hid (∀ X, Below wd.heap.size wd X → X.cell? ⟨w6.heap.size, 0, none⟩ = some (.slice A6 a.length m6) ∧ X.cell? ⟨w.heap.size, 0, none⟩ = some (.slice A a.length m)) := Lib.hid (fun X hb => by
        have c0 := HX79.out X (HB9d.out.trans (hb.mono HB9d.out.size))
        have d0 := HCX.out X (HBd.out.trans (hb.mono HBd.out.size))
        exact ⟨c0, d0⟩)
      have HTk := Lib.hid (fun (X : World) (hb : Below wd.heap.size wd X) => HTA.out X (HBd.out.trans (hb.mono HBd.out.size)))
      have HEQ := Lib.hid (fun (X : World) (u : Value) (hb : Below wd.heap.size wd X) (hc : PrO X u a) => eqP_any a _ u X (HTAd.out.kept hb) hc)
      have hbw : Below wd.heap.size wd wd := Below.refl _ _
      go_region_held3 (fun X => X.cell? ⟨w6.heap.size, 0, none⟩ = some (.slice A6 a.length m6) ∧ X.cell? ⟨w.heap.size, 0, none⟩ = some (.slice A a.length m)) (with_reducible first | exact HKA.out _ hbw.drew | exact HKA.out _ hbw | fail) (first | (go_at_call 12; (with_reducible refine (HTk.out _ hbw.drew).mono ?_); rintro e wa ⟨A7, m7, rfl, ht7, hb7⟩; have hbw := hbw.drew.trans (hb7.mono hbw.drew.size)) | (go_at_call 14; (with_reducible refine (HEQ.out _ _ ?hq1 ?hq2).mono ?_); (case hq1 => (first | exact hbw | exact hbw.drew)); (case hq2 => exact ht7.own); rintro e wb ⟨rfl, hb8⟩; (first | (have hbw := hbw.trans (hb8.mono hbw.size)) | (have hbw := hbw.drew.trans (hb8.mono hbw.drew.size)))))
      all_goals
        obtain ⟨we, hwe⟩ : ∃ we, we = wb := ⟨_, rfl⟩
        rw [← hwe] at hbw ⊢
        have HBe := Lib.hid hbw
        have HBz := Lib.hid (HBd.out.trans (hbw.mono HBd.out.size))
        have HTBe := Lib.hid (HTBd.out.kept hbw)
        clear hbw ht7 hb7 hb8 HKA HTk HEQ hwe
        go_wp2_with fail
        have HKB : Hid (∀ X, Below we.heap.size we X → X.cell? ⟨w8.heap.size, 0, none⟩ = some (.slice A8 b.length m8) ∧ X.cell? ⟨w.heap.size + 1, 0, none⟩ = some (.slice A' b.length m')) := Lib.hid (fun X hb => by
          have c0 := HX9.out X (HB9d.out.trans ((HBe.out.trans (hb.mono HBe.out.size)).mono HB9d.out.size))
          have d0 := HCY.out X (HBz.out.trans (hb.mono HBz.out.size))
          exact ⟨c0, d0⟩)
        have HTk := Lib.hid (fun (X : World) (hb : Below we.heap.size we X) => HTB.out X (HBz.out.trans (hb.mono HBz.out.size)))
        have HEQ := Lib.hid (fun (X : World) (u : Value) (hb : Below we.heap.size we X) (hc : PrO X u b) => eqP_any b _ u X (HTBe.out.kept hb) hc)
        have hbw : Below we.heap.size we we := Below.refl _ _
        go_region_held3 (fun X => X.cell? ⟨w8.heap.size, 0, none⟩ = some (.slice A8 b.length m8) ∧ X.cell? ⟨w.heap.size + 1, 0, none⟩ = some (.slice A' b.length m')) (with_reducible first | exact HKB.out _ hbw.drew | exact HKB.out _ hbw | fail) (first | (go_at_call 12; (with_reducible refine (HTk.out _ hbw.drew).mono ?_); rintro e wa ⟨A7, m7, rfl, ht7, hb7⟩; have hbw := hbw.drew.trans (hb7.mono hbw.drew.size)) | (go_at_call 14; (with_reducible refine (HEQ.out _ _ ?hq1 ?hq2).mono ?_); (case hq1 => (first | exact hbw | exact hbw.drew)); (case hq2 => exact ht7.own); rintro e wb ⟨rfl, hb8⟩; (first | (have hbw := hbw.trans (hb8.mono hbw.size)) | (have hbw := hbw.drew.trans (hb8.mono hbw.drew.size)))))
        all_goals
          have HBY := Lib.hid (HBz.out.trans (hbw.mono HBz.out.size))
          clear hbw ht7 hb7 hb8
          go_wp2_with fail
          go_ret
          exact ⟨rfl, HB0.out.trans (HBY.out.mono HB0.out.size)⟩
    · have HQ2 := Lib.hid (leftOf_no hfit2)
      clear hW hW1 hb0 hb1 hb12 hz1 hbx hby h h' HS0 HI0 hfit hfit2 hq
      go_enter Try.func4, Try.ntmps4
      go_wp2_with fail
      rw [← HWE.out]
      refine HSZ.out.mono ?_
      rintro e w1 ⟨he, hb1⟩
      rw [HQ.out] at he
      subst he
      have HB1 := Lib.hid hb1
      clear hb1 c0
      have c0 := HCY.out w1 HB1.out
      go_wp2_with fail
      refine (HZ2.out w1 HB1.out).mono ?_
      rintro e w2 ⟨he, hb2⟩
      rw [HQ2.out] at he
      subst he
      have HB2 := Lib.hid (HB1.out.trans (hb2.mono HB1.out.size))
      clear hb2 c0
      go_wp2_with fail
      go_ret
      exact ⟨rfl, HB0.out.trans (HB2.out.mono HB0.out.size)⟩
  · have HQ := Lib.hid (leftOf_no (m := wtP a) (z := 1048576) (by omega))
    clear hW hW1 hb0 hb1 hb12 hz1 hbx hby h h' HS0 HI0 hfit
    go_enter Try.func4, Try.ntmps4
    go_wp2_with fail
    rw [← HWE.out]
    refine HSZ.out.mono ?_
    rintro e w1 ⟨he, hb1⟩
    rw [HQ.out] at he
    subst he
    have HB1 := Lib.hid hb1
    clear hb1 c0
    go_wp2_with fail
    go_ret
    exact ⟨rfl, HB0.out.trans (HB1.out.mono HB0.out.size)⟩
end Go.Proofs.Ytppliiingoonlaa

/-
  What spec.EqualProblem answers.
-/
namespace Go.Proofs.Ytppliiingoonlaa
open Go.RowKit

set_option maxRecDepth 100000 in
set_option maxHeartbeats 6400000 in
theorem specEqP_any (ps qs : List Cx) (v v' : Value) (w : World) (h : PrO w v ps) (h' : PrO w v' qs) :
    Calls Try.prog 11 #[.agg #[v], .agg #[v']] w fun e w' => e = .returned (.bool (sameP ps qs)) ∧ Below w.heap.size w w' := by
  obtain ⟨hl, A, m, rfl⟩ := h.shape
  obtain ⟨hl', A', m', rfl⟩ := h'.shape
  unfold maxI at hl hl'
  obtain ⟨W1, hW1⟩ : ∃ W1, W1 = w.alloc (.cells #[.slice A ps.length m] 44) := ⟨_, rfl⟩
  obtain ⟨W, hW⟩ : ∃ W, W = W1.alloc (.cells #[.slice A' qs.length m'] 44) := ⟨_, rfl⟩
  have hb1 : Below w.heap.size w W1 := by rw [hW1]; exact (Below.refl _ _).alloc (Nat.le_refl _) _
  have hb12 : Below W1.heap.size W1 W := by rw [hW]; exact (Below.refl _ _).alloc (Nat.le_refl _) _
  have hz1 : W1.heap.size = w.heap.size + 1 := by rw [hW1]; simp
  have hb0 := hb1.trans (hb12.mono hb1.size)
  have hbx : BoxP W w.heap.size (.slice A ps.length m) := BoxP.kept (by rw [hW1]; exact boxP_new w _ _) hb12
  have hby : BoxP W (w.heap.size + 1) (.slice A' qs.length m') := by rw [hW, ← hz1]; exact boxP_new W1 _ _
  rw [hW1] at hW
  have HWE := Lib.hid hW
  have HB0 := Lib.hid hb0
  have HBX := Lib.hid (fun (V : World) (hb : Below W.heap.size W V) => (hbx.kept hb).cell)
  have HBY := Lib.hid (fun (V : World) (hb : Below W.heap.size W V) => (hby.kept hb).cell)
  have HE := Lib.hid (fun (V : World) (hb : Below W.heap.size W V) (j : Nat) (hj : j < ps.length) => PrR.at ((h.kept hb0).kept hb) hj)
  have HF := Lib.hid (fun (V : World) (hb : Below W.heap.size W V) (j : Nat) (hj : j < qs.length) => PrR.at ((h'.kept hb0).kept hb) hj)
  have hbc := HBX.out W (Below.refl _ _)
  have hbd := HBY.out W (Below.refl _ _)
  rw [HWE.out] at hbc hbd
  clear hW1 hb1 hb12 hz1 hW hbx hby h h' hb0
  by_cases hlen : ps.length = qs.length
  · have hne : ((ps.length : Int) != (qs.length : Int)) = false := by simp [hlen]
    have HLN := Lib.hid hlen
    clear hlen
    go_enter Try.func11, Try.ntmps11
    go_wp2_with fail
    rw [← HWE.out]
    clear hbc hbd
    go_loopw [5] (fun i wr => ∃ j : Nat, i = .int .i64 j ∧ j ≤ ps.length ∧ Hid (sameTo ps qs j) ∧ Below W.heap.size W wr) (fun i _ => ps.length - (intOf i).toNat)
    case atStart => exact ⟨0, rfl, Nat.zero_le _, Lib.hid (fun i a b h => absurd h (Nat.not_lt_zero i)), Below.refl _ _⟩
    case round =>
      obtain ⟨j, rfl, hj, HA, hb⟩ := hrel
      have HB := Lib.hid hb
      have hbc := HBX.out wr hb
      by_cases hlt : j < ps.length
      · have hlt2 : j < qs.length := by have := HLN.out; omega
        obtain ⟨g, o, rfl, a, xu, vc, hx, ha, hc⟩ := HE.out wr hb j hlt
        obtain ⟨g', o', rfl, b, xu', vc', hx', ha', hc'⟩ := HF.out wr hb j hlt2
        obtain ⟨A1, m1, B1, r1, rfl, rfl⟩ := hc.shape
        obtain ⟨A2, m2, B2, r2, rfl, rfl⟩ := hc'.shape
        have hlt' : (j : Int) < ps.length := by omega
        have hlt2' : (j : Int) < qs.length := by omega
        have hj0 : (0 : Int) ≤ j := by omega
        have HX := Lib.hid hx
        have HX' := Lib.hid hx'
        have HU := Lib.hid (fun (n : UpW wr) => up_call (W := wr) (n := n) (specEqC_any a b _ _ _ _ n.w (hc.kept n.up) (hc'.kept n.up)))
        have q := fun (n : UpW wr) => (ha.below n.up ha.lt : CxAt n.w g (o + j * 8) a _ _)
        have k0 := fun (n : UpW wr) => (q n).1
        have k1 := fun (n : UpW wr) => (q n).2.1
        have k2 := fun (n : UpW wr) => (q n).2.2.1
        have k3 := fun (n : UpW wr) => (q n).2.2.2.1
        have k4 := fun (n : UpW wr) => (q n).2.2.2.2.1
        have k5 := fun (n : UpW wr) => (q n).2.2.2.2.2.1
        have k6 := fun (n : UpW wr) => (q n).2.2.2.2.2.2.1
        have k7 := fun (n : UpW wr) => (q n).2.2.2.2.2.2.2
        have p := fun (n : UpW wr) => (ha'.below n.up ha'.lt : CxAt n.w g' (o' + j * 8) b _ _)
        have l0 := fun (n : UpW wr) => (p n).1
        have l1 := fun (n : UpW wr) => (p n).2.1
        have l2 := fun (n : UpW wr) => (p n).2.2.1
        have l3 := fun (n : UpW wr) => (p n).2.2.2.1
        have l4 := fun (n : UpW wr) => (p n).2.2.2.2.1
        have l5 := fun (n : UpW wr) => (p n).2.2.2.2.2.1
        have l6 := fun (n : UpW wr) => (p n).2.2.2.2.2.2.1
        have l7 := fun (n : UpW wr) => (p n).2.2.2.2.2.2.2
        have kb := fun (n : UpW wr) => HBX.out n.w (HB.out.trans (n.up.mono HB.out.size))
        have lb := fun (n : UpW wr) => HBY.out n.w (HB.out.trans (n.up.mono HB.out.size))
        clear q p ha hc hx ha' hc' hx' hb
        cases hh : sameC a b with
        | true =>
          rw [hh] at HU
          have HN := Lib.hid (HA.out.step HX.out HX'.out hh)
          clear hh
          go_wp2_with fail
          refine wp_region_up (by kernel_rfl) (by kernel_rfl) ?_
          repeat (go_big_quiet_step (with_reducible exact HU.out _))
          refine wpQuiet_nil ?_
          rintro _ ⟨⟨wd, hbw⟩, rfl⟩
          have HBd := Lib.hid (HB.out.trans (hbw.mono HB.out.size))
          clear hbw k0 k1 k2 k3 k4 k5 k6 k7 l0 l1 l2 l3 l4 l5 l6 l7 kb lb hbc
          go_wp2_with fail
          go_roundw
          case rel => exact ⟨j + 1, by go_num, by omega, HN, HBd.out⟩
          case measure => simp [intOf]; omega
        | false =>
          rw [hh] at HU
          have HR := Lib.hid (sameP_no HX.out HX'.out hh)
          clear hh
          go_wp2_with fail
          refine wp_region_up (by kernel_rfl) (by kernel_rfl) ?_
          repeat (go_big_quiet_step (with_reducible exact HU.out _))
          refine wpQuiet_nil ?_
          rintro _ ⟨⟨wd, hbw⟩, rfl⟩
          have HBd := Lib.hid (HB.out.trans (hbw.mono HB.out.size))
          clear hbw k0 k1 k2 k3 k4 k5 k6 k7 l0 l1 l2 l3 l4 l5 l6 l7 kb lb hbc
          go_wp2_with fail
          go_ret
          exact ⟨by rw [HR.out]; rfl, HB0.out.trans (HBd.out.mono HB0.out.size)⟩
      · have hd : ¬ ((j : Int) < ps.length) := by omega
        have HR := Lib.hid (sameP_all HLN.out (fun i a b ha hb => HA.out i a b (by have := (List.getElem?_eq_some_iff.1 ha).1; omega) ha hb))
        go_wp2_with fail
        go_ret
        exact ⟨by rw [HR.out]; rfl, HB0.out.trans (HB.out.mono HB0.out.size)⟩
  · have hne : ((ps.length : Int) != (qs.length : Int)) = true := by simp; omega
    have HR := Lib.hid (sameP_len hlen)
    go_enter Try.func11, Try.ntmps11
    go_wp2_with fail
    go_ret
    exact ⟨by rw [HR.out]; rfl, by rw [← HWE.out]; exact HB0.out⟩
end Go.Proofs.Ytppliiingoonlaa

/-
  What slices.EqualFunc and impl.EqualProblem answer over problems in blocks apart.
-/
namespace Go.Proofs.Ytppliiingoonlaa
open Go.RowKit

/-- An element of a problem in blocks of its own. -/
theorem prT_at {w : World} {S : Nat → Prop} {A : Option Addr} {n m : Nat} {ps : List Cx} (h : PrT w S (.slice A n m) ps) {j : Nat} (hj : j < ps.length) :
    ∃ g o, A = some ⟨g, o, none⟩ ∧ ∃ c xu vc, ps[j]? = some c ∧ CxAt w g (o + j * 8) c xu vc ∧ CnT w S xu vc c := by
  rcases h.2 with ⟨h0, _⟩ | ⟨g, o, m', K, hv, _, _, hK, _, hc⟩
  · omega
  · cases hv
    have hx := List.getElem?_eq_getElem hj
    obtain ⟨xu, vc, ha, hq⟩ := hc j _ hx
    exact ⟨g, o, rfl, _, xu, vc, hx, ha, hq.mono (fun _ _ => rfl) (fun h hh => (hK j h hh).1)⟩

set_option maxRecDepth 100000 in
set_option maxHeartbeats 6400000 in
theorem eqFuncC_any (ps qs : List Cx) (v v' : Value) (S S' : Nat → Prop) (w : World) (h : PrT w S v ps) (h' : PrT w S' v' qs) (hS : ∀ g, S g → g < w.heap.size) (hS' : ∀ g, S' g → g < w.heap.size) (hap : ∀ g, S g → ¬ S' g) (hsz : ∀ c ∈ ps, c.xa.size ≤ 2097152) :
    Calls Try.prog 27 #[v, v', .func (.func 8) #[] #[]] w fun e w' => e = .returned (.bool (sameP ps qs)) ∧ Below w.heap.size w w' := by
  obtain ⟨hl, A, m, rfl⟩ := h.shape
  obtain ⟨hl', A', m', rfl⟩ := h'.shape
  unfold maxI at hl hl'
  have HE := Lib.hid (fun (V : World) (hb : Below w.heap.size w V) (j : Nat) (hj : j < ps.length) => prT_at (h.kept hS hb) hj)
  have HF := Lib.hid (fun (V : World) (hb : Below w.heap.size w V) (j : Nat) (hj : j < qs.length) => prT_at (h'.kept hS' hb) hj)
  have HSB := Lib.hid (fun (V : World) (hb : Below w.heap.size w V) g (hg : S g) => Nat.lt_of_lt_of_le (hS g hg) hb.size)
  have HSB' := Lib.hid (fun (V : World) (hb : Below w.heap.size w V) g (hg : S' g) => Nat.lt_of_lt_of_le (hS' g hg) hb.size)
  have HAP := Lib.hid hap
  have HSZ := Lib.hid hsz
  clear h h' hS hS' hap hsz
  by_cases hlen : ps.length = qs.length
  · have hne : ((ps.length : Int) != (qs.length : Int)) = false := by simp [hlen]
    have HLN := Lib.hid hlen
    clear hlen
    go_enter Try.func27, Try.ntmps27
    go_wp2_with fail
    go_loopw [17] (fun i wr => ∃ j : Nat, i = .int .i64 j ∧ j ≤ ps.length ∧ Hid (sameTo ps qs j) ∧ Below w.heap.size w wr) (fun i _ => ps.length - (intOf i).toNat)
    case atStart => exact ⟨0, rfl, Nat.zero_le _, Lib.hid (fun i a b h => absurd h (Nat.not_lt_zero i)), Below.refl _ _⟩
    case round =>
      obtain ⟨j, rfl, hj, HA, hb⟩ := hrel
      have HB := Lib.hid hb
      by_cases hlt : j < ps.length
      · have hlt2 : j < qs.length := by have := HLN.out; omega
        obtain ⟨g, o, rfl, a, xu, vc, hx, ha, hc⟩ := HE.out wr hb j hlt
        obtain ⟨g', o', rfl, b, xu', vc', hx', ha', hc'⟩ := HF.out wr hb j hlt2
        obtain ⟨A1, m1, B1, r1, rfl, rfl⟩ := hc.shape
        obtain ⟨A2, m2, B2, r2, rfl, rfl⟩ := hc'.shape
        obtain ⟨w2, hw2⟩ : ∃ w2, w2 = (wr.alloc (.cells #[.int .i64 a.k, .string a.l, .string a.r, .int .i64 a.xk, .string a.xl, .slice A1 a.xa.items.length m1, .slice B1 a.cs.length r1, .int .i64 a.b] 34)).alloc (.cells #[.int .i64 b.k, .string b.l, .string b.r, .int .i64 b.xk, .string b.xl, .slice A2 b.xa.items.length m2, .slice B2 b.cs.length r2, .int .i64 b.b] 34) := ⟨_, rfl⟩
        have hb2 : Below wr.heap.size wr w2 := by rw [hw2]; exact ((Below.refl _ _).alloc (Nat.le_refl _) _).alloc (by simp) _
        have hlt' : (j : Int) < ps.length := by omega
        have hlt2' : (j : Int) < qs.length := by omega
        have hj0 : (0 : Int) ≤ j := by omega
        have HX := Lib.hid hx
        have HX' := Lib.hid hx'
        have HI := Lib.hid (implEqC_any a b _ _ _ _ S S' w2 (hc.kept (HSB.out wr hb) hb2) (hc'.kept (HSB'.out wr hb) hb2) (fun g hg => Nat.lt_of_lt_of_le (HSB.out wr hb g hg) hb2.size) (fun g hg => Nat.lt_of_lt_of_le (HSB'.out wr hb g hg) hb2.size) HAP.out (HSZ.out a (List.mem_of_getElem? hx)))
        have HB2 := Lib.hid (HB.out.trans (hb2.mono HB.out.size))
        obtain ⟨c0, c1, c2, c3, c4, c5, c6, c7⟩ := ha
        have HD := Lib.hid (fun (V : World) (hv : Below wr.heap.size wr V) => (ha'.below hv ha'.lt : CxAt V g' (o' + j * 8) b _ _))
        obtain ⟨d0, d1, d2, d3, d4, d5, d6, d7⟩ := HD.out (wr.alloc (.cells #[.int .i64 a.k, .string a.l, .string a.r, .int .i64 a.xk, .string a.xl, .slice A1 a.xa.items.length m1, .slice B1 a.cs.length r1, .int .i64 a.b] 34)) ((Below.refl _ _).alloc (Nat.le_refl _) _)
        have HW2 := Lib.hid hw2
        clear hc hx ha' hc' hx' hb hb2 hw2
        cases hh : sameC a b with
        | true =>
          rw [hh] at HI
          have HN := Lib.hid (HA.out.step HX.out HX'.out hh)
          clear hh
          go_wp2_with fail
          rw [← HW2.out]
          refine HI.out.mono ?_
          rintro e w3 ⟨rfl, hb3⟩
          have HB3 := Lib.hid (HB2.out.trans (hb3.mono HB2.out.size))
          clear hb3 c0 c1 c2 c3 c4 c5 c6 c7 d0 d1 d2 d3 d4 d5 d6 d7
          go_wp2_with fail
          go_roundw
          case rel => exact ⟨j + 1, by go_num, by omega, HN, HB3.out⟩
          case measure => simp [intOf]; omega
        | false =>
          rw [hh] at HI
          have HR := Lib.hid (sameP_no HX.out HX'.out hh)
          clear hh
          go_wp2_with fail
          rw [← HW2.out]
          refine HI.out.mono ?_
          rintro e w3 ⟨rfl, hb3⟩
          have HB3 := Lib.hid (HB2.out.trans (hb3.mono HB2.out.size))
          clear hb3 c0 c1 c2 c3 c4 c5 c6 c7 d0 d1 d2 d3 d4 d5 d6 d7
          go_wp2_with fail
          go_ret
          exact ⟨by rw [HR.out]; rfl, HB3.out⟩
      · have hd : ¬ ((j : Int) < ps.length) := by omega
        have HR := Lib.hid (sameP_all HLN.out (fun i a b ha hb => HA.out i a b (by have := (List.getElem?_eq_some_iff.1 ha).1; omega) ha hb))
        go_wp2_with fail
        go_ret
        exact ⟨by rw [HR.out]; rfl, HB.out⟩
  · have hne : ((ps.length : Int) != (qs.length : Int)) = true := by simp; omega
    have HR := Lib.hid (sameP_len hlen)
    go_enter Try.func27, Try.ntmps27
    go_wp2_with fail
    go_ret
    exact ⟨by rw [HR.out]; rfl, Below.refl _ _⟩

set_option maxRecDepth 100000 in
set_option maxHeartbeats 3200000 in
theorem implEqP_any (ps qs : List Cx) (v v' : Value) (S S' : Nat → Prop) (w : World) (h : PrT w S v ps) (h' : PrT w S' v' qs) (hS : ∀ g, S g → g < w.heap.size) (hS' : ∀ g, S' g → g < w.heap.size) (hap : ∀ g, S g → ¬ S' g) (hsz : ∀ c ∈ ps, c.xa.size ≤ 2097152) :
    Calls Try.prog 13 #[.agg #[v], .agg #[v']] w fun e w' => e = .returned (.bool (sameP ps qs)) ∧ Below w.heap.size w w' := by
  obtain ⟨hl, A, m, rfl⟩ := h.shape
  obtain ⟨hl', A', m', rfl⟩ := h'.shape
  obtain ⟨W1, hW1⟩ : ∃ W1, W1 = w.alloc (.cells #[.slice A ps.length m] 44) := ⟨_, rfl⟩
  obtain ⟨W, hW⟩ : ∃ W, W = W1.alloc (.cells #[.slice A' qs.length m'] 44) := ⟨_, rfl⟩
  have hb1 : Below w.heap.size w W1 := by rw [hW1]; exact (Below.refl _ _).alloc (Nat.le_refl _) _
  have hb12 : Below W1.heap.size W1 W := by rw [hW]; exact (Below.refl _ _).alloc (Nat.le_refl _) _
  have hz1 : W1.heap.size = w.heap.size + 1 := by rw [hW1]; simp
  have hb0 := hb1.trans (hb12.mono hb1.size)
  have hbx : BoxP W w.heap.size (.slice A ps.length m) := BoxP.kept (by rw [hW1]; exact boxP_new w _ _) hb12
  have hby : BoxP W (w.heap.size + 1) (.slice A' qs.length m') := by rw [hW, ← hz1]; exact boxP_new W1 _ _
  rw [hW1] at hW
  have HWE := Lib.hid hW
  have HB0 := Lib.hid hb0
  have HI := Lib.hid (eqFuncC_any ps qs _ _ S S' W (h.kept hS hb0) (h'.kept hS' hb0) (fun g hg => Nat.lt_of_lt_of_le (hS g hg) hb0.size) (fun g hg => Nat.lt_of_lt_of_le (hS' g hg) hb0.size) hap hsz)
  have hbc := hbx.cell
  have hbd := hby.cell
  rw [HWE.out] at hbc hbd
  clear hW1 hb1 hb12 hz1 hW hbx hby h h' hb0 hS hS' hap hsz hl hl'
  go_enter Try.func13, Try.ntmps13
  go_wp2_with fail
  rw [← HWE.out]
  refine HI.out.mono ?_
  rintro e w1 ⟨rfl, hb1⟩
  have HB1 := Lib.hid (HB0.out.trans (hb1.mono HB0.out.size))
  clear hb1 hbc hbd
  go_wp2_with fail
  go_ret
  exact ⟨rfl, HB1.out⟩
end Go.Proofs.Ytppliiingoonlaa
