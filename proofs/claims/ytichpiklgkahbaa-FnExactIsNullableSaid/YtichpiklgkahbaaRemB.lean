/-
  What impl.remembered's closure answers.
-/
import Derived.Test.YtichpiklgkahbaaMat
namespace Go.Proofs.Ytichpiklgkahbaa
open Go.RowKit

def remCap (B : RemB) : Array Value := #[.pointer (some ⟨B.bp, 0, none⟩), .pointer (some ⟨B.bk, 0, none⟩), .pointer (some ⟨B.bm, 0, none⟩), .pointer (some ⟨B.bt, 0, none⟩)]

/-- What a walk asks of a remembering closure's blocks. -/
theorem Rem.facts {N : Nat} {M : Mt} {fm : Value} {B : RemB} {w : World} (h : Rem N M fm B w) (p q m : Nat) (hp : p < q) (hq : q = (N + 1) * (N + 1)) (hm : m = N + 1) :
    w.cell? ⟨B.bp, 0, none⟩ = some (.int .i64 (m : Int)) ∧ w.cell? ⟨B.bk, 0, none⟩ = some (.slice (some ⟨B.K, 0, none⟩) q q) ∧ w.cell? ⟨B.bm, 0, none⟩ = some fm ∧ w.cell? ⟨B.bt, 0, none⟩ = some (.slice (some ⟨B.T, 0, none⟩) q q) ∧
      w.frozen? ⟨B.K, p, none⟩ = false ∧ w.frozen? ⟨B.T, p, none⟩ = false ∧ ∃ a b : Bool, w.cell? ⟨B.K, p, none⟩ = some (.bool a) ∧ w.cell? ⟨B.T, p, none⟩ = some (.bool b) := by
  subst hq hm
  obtain ⟨h1, h2, h3, h4, kn, mt, h5, h6, h7⟩ := h
  exact ⟨cell_of_one h1, cell_of_one h2, cell_of_one h3, cell_of_one h4, h5.free _, h6.free _, kn p, mt p, h5.cell hp, h6.cell hp⟩

theorem Rem.mid {N : Nat} {M : Mt} {fm : Value} {B : RemB} {w : World} (h : Rem N M fm B w) (ha : B.Apart) (v : Bool) (p q : Nat) (hp : p < q) (hq : q = (N + 1) * (N + 1)) :
    (w.setCell ⟨B.T, p, none⟩ (.bool v)).cell? ⟨B.bk, 0, none⟩ = some (.slice (some ⟨B.K, 0, none⟩) q q) ∧ (w.setCell ⟨B.T, p, none⟩ (.bool v)).frozen? ⟨B.K, p, none⟩ = false ∧ (∃ a : Bool, (w.setCell ⟨B.T, p, none⟩ (.bool v)).cell? ⟨B.K, p, none⟩ = some (.bool a)) ∧
    ((w.setCell ⟨B.T, p, none⟩ (.bool v)).setCell ⟨B.K, p, none⟩ (.bool true)).cell? ⟨B.bt, 0, none⟩ = some (.slice (some ⟨B.T, 0, none⟩) q q) ∧
    ((w.setCell ⟨B.T, p, none⟩ (.bool v)).setCell ⟨B.K, p, none⟩ (.bool true)).cell? ⟨B.T, p, none⟩ = some (.bool v) := by
  subst hq
  obtain ⟨h1, h2, h3, h4, kn, mt, h5, h6, h7⟩ := h
  obtain ⟨k1, k2, k3, k4⟩ := ha.kb
  obtain ⟨t1, t2, t3, t4⟩ := ha.tb
  have h5' := h5.same (Below.heap_setCell w ⟨B.T, p, none⟩ (.bool v) B.K ha.kt)
  refine ⟨cell_of_one ((Below.heap_setCell _ _ _ _ (Ne.symm t2)).trans h2), h5'.free _, ⟨_, h5'.cell hp⟩, cell_of_one ((Below.heap_setCell _ _ _ _ (Ne.symm k4)).trans ((Below.heap_setCell _ _ _ _ (Ne.symm t4)).trans h4)), ?_⟩
  have := ((h6.set p (.bool v)).same (Below.heap_setCell _ ⟨B.K, p, none⟩ (.bool true) B.T (Ne.symm ha.kt))).cell hp
  simpa using this

set_option maxHeartbeats 1600000 in
theorem rem_body (N : Nat) (M : Mt) (km : Nat) (capm : Array Value) (B : RemB) (S SJ : Nat → Prop) (J : World → Prop) (hN : N ≤ 30) (ha : B.Apart) (hK : S B.K) (hT : S B.T)
    (hJ : Keeps J SJ) (hJh : Has J SJ) (hJK : ¬ SJ B.K) (hJT : ¬ SJ B.T) (hen : ∀ args w, (callFunc km args).run Try.prog w = .ok (.enter km args) w) (i j : Nat) (hij : i ≤ j) (hj : j ≤ N)
    (hin : Ans km capm (M i j) (fun w => J w ∧ Rem N M (.func (.func km) #[] capm) B w) S i j) :
    Ans 85 (remCap B) (M i j) (fun w => J w ∧ Rem N M (.func (.func km) #[] capm) B w) S i j := by
  intro w hw
  obtain ⟨hJw, hR⟩ := hw
  obtain ⟨h1, h2, h3, h4, kn, mt, h5, h6, h7⟩ := id hR
  have c1 := cell_of_one h1
  have c2 := cell_of_one h2
  have c3 := cell_of_one h3
  have c4 := cell_of_one h4
  have hpl := place_lt (N := N) (i := i) (j := j) (by omega) hj
  have hle := place_le hN
  have c5 := h5.cell hpl
  have c6 := h6.cell hpl
  obtain ⟨p, hp⟩ : ∃ p, p = i * (N + 1) + j := ⟨_, rfl⟩
  obtain ⟨q, hq⟩ : ∃ q, q = (N + 1) * (N + 1) := ⟨_, rfl⟩
  obtain ⟨m, hm⟩ : ∃ m, m = N + 1 := ⟨_, rfl⟩
  obtain ⟨t, ht⟩ : ∃ t, t = i * (N + 1) := ⟨_, rfl⟩
  have hm1 : wrap64 ((i : Int) * (m : Int)) = (t : Int) := by
    rw [hm, ht, ← Int.natCast_mul]
    unfold wrap64
    have : i * (N + 1) ≤ 1000 := by omega
    omega
  have hm2 : wrap64 ((t : Int) + (j : Int)) = (p : Int) := by
    unfold wrap64
    omega
  rw [← hp] at hpl c5 c6
  rw [← hq] at hpl c2 c4 hle
  rw [← hm] at c1
  have HP := Lib.hid hp
  have HM := Lib.hid (fun w1 (h : Rem N M (.func (.func km) #[] capm) B w1) v => h.mid ha v p q hpl hq)
  have HPUT := Lib.hid (fun w1 (h : Rem N M (.func (.func km) #[] capm) B w1) => h.put ha (Nat.le_trans hij hj) hj)
  rw [← hp] at HPUT
  have HF := Lib.hid (fun w1 (h : Rem N M (.func (.func km) #[] capm) B w1) => h.facts p q m hpl hq hm)
  have HC := Lib.hid (fun w' (hb : Below w.heap.size w w') => (hin w' ⟨hJ w w' hJw (fun g hg => hb.block g (hJh w hJw g hg)), hR.same (fun g hg => hb.block g (hR.lt hg))⟩).mono (fun e w1 ⟨he, h1, h2⟩ => (⟨he, h1, (⟨h2.os.trans hb.os, h2.tape.trans hb.tape, h2.output.trans hb.output, Nat.le_trans hb.size h2.size, fun g hg hs => (h2.block g (Nat.lt_of_lt_of_le hg hb.size) hs).trans (hb.block g hg)⟩ : Chg S w w1)⟩ : _ ∧ (J w1 ∧ Rem N M (.func (.func km) #[] capm) B w1) ∧ _)))
  have HJ := Lib.hid (fun w1 (h : J w1) (a b : Addr) (u v : Value) (ha : ¬ SJ a.block) (hb : ¬ SJ b.block) => hJ w1 ((w1.setCell a u).setCell b v) h (fun g hg => (Below.heap_setCell _ _ _ g (fun e => hb (e ▸ hg))).trans (Below.heap_setCell _ _ _ g (fun e => ha (e ▸ hg)))))
  have h8 := h7 i j (Nat.le_trans hij hj) hj
  rw [← hp] at h8
  unfold remCap
  cases hkn : kn p with
  | true =>
    rw [hkn] at c5 h8
    rw [h8 rfl] at c6
    have HR := Lib.hid hR
    have HJW := Lib.hid hJw
    clear hp hq hm ht hin hR h1 h2 h3 h4 hJw h5 h6 h7 h8 hkn hJ hJh
    go_enter Try.func85, Try.ntmps85
    go_wp2_with fail
    go_ret
    exact ⟨rfl, ⟨HJW.out, HR.out⟩, Chg.refl _ _⟩
  | false =>
    rw [hkn] at c5
    clear hp hq hm ht hin hR h1 h2 h3 h4 hJw h5 h6 h7 h8 hkn hJ hJh
    go_enter Try.func85, Try.ntmps85
    go_wp2_with fail
    go_region_with (go_at_fn km; refine (HC.out _ (by first | exact Below.refl _ _ | exact (Below.refl _ _).drew)).mono ?_; rintro e w1 ⟨rfl, ⟨hJ1, hR1⟩, hc1⟩; obtain ⟨d1, d2, d3, d4, f5, f6, a1, b1, d5, d6⟩ := HF.out _ hR1)
    all_goals
      obtain ⟨m1, m2, ⟨a2, m3⟩, m4, m5⟩ := HM.out _ hR1 (M i j)
      have HE := Lib.hid (show (J ((w1.setCell ⟨B.T, p, none⟩ (.bool (M i j))).setCell ⟨B.K, p, none⟩ (.bool true)) ∧ Rem N M (.func (.func km) #[] capm) B ((w1.setCell ⟨B.T, p, none⟩ (.bool (M i j))).setCell ⟨B.K, p, none⟩ (.bool true))) ∧ Chg S w ((w1.setCell ⟨B.T, p, none⟩ (.bool (M i j))).setCell ⟨B.K, p, none⟩ (.bool true)) from ⟨⟨HJ.out w1 hJ1 _ _ _ _ hJT hJK, HPUT.out _ hR1⟩, (hc1.set (a := ⟨B.T, p, none⟩) hT _).set (a := ⟨B.K, p, none⟩) hK _⟩)
      clear hJ1 hR1 hc1 c1 c2 c3 c4 c5 c6 d1 d2 d3 d4 d5 d6 f5 f6
      go_wp2_with fail
      go_ret
      exact ⟨rfl, HE.out⟩
end Go.Proofs.Ytichpiklgkahbaa
