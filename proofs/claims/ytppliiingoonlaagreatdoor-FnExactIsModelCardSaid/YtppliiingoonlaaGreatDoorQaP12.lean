/-
  Texts of one proof, one behind the other.
-/
import Derived.Shelf.Abstract
import Derived.Deep.RegionWith
import Derived.Deep.RegionHeld3
import Derived.Laws.EntriesVeiled
import Derived.Outline
import Derived.RegionTactic
import Derived.Test.YtppliiingoonlaaGreatDoorQaP2
import Derived.Test.YtppliiingoonlaaGreatDoorQaP11

/-
  What a closure that matches parts of a word is: in every world in which its own blocks hold what they should, it answers, and they hold what they should behind it.
  What impl.remembered's closure answers.
  What impl.remembered answers: a closure with two tables of its own.
  What the closures of impl.catMatcher and impl.starMatcher answer, where those that they ask answer what they should.
  The closures of impl.matcherOf that ask nothing, or one or two others.
  Closures put together: what remembers; concatenation, repetition.
  What impl.catMatcher and impl.starMatcher answer.
-/
namespace Go.Proofs.YtppliiingoonlaaGreatDoor
open Go.RowKit
theorem Chg.drew {S : Nat → Prop} {w w' : World} (h : Chg S w w') : Chg S w w'.drew := ⟨h.os, h.tape, h.output, h.size, h.block⟩
/-- Function k, called at two places, answers M; J holds behind it; only S has turned. -/
def Ans (k : Nat) (cap : Array Value) (b : Bool) (J : World → Prop) (S : Nat → Prop) (i j : Nat) : Prop :=
  ∀ w, J w → Calls Tryz.prog k (#[.int .i64 (i : Int), .int .i64 (j : Int)] ++ cap) w fun e w' => e = .returned (.bool b) ∧ J w' ∧ Chg S w w'
/-- J hangs on the blocks S alone. -/
def Keeps (J : World → Prop) (S : Nat → Prop) : Prop := ∀ w w', J w → (∀ g, S g → w'.heap[g]? = w.heap[g]?) → J w'
/-- .. which are there. -/
def Has (J : World → Prop) (S : Nat → Prop) : Prop := ∀ w, J w → ∀ g, S g → g < w.heap.size
structure Mat (N : Nat) (M : Mt) (k : Nat) (cap : Array Value) (J : World → Prop) (S : Nat → Prop) : Prop where
  enter : ∀ args w, (callFunc k args).run Tryz.prog w = .ok (.enter k args) w
  keeps : Keeps J S
  has : Has J S
  call : ∀ i j, i ≤ j → j ≤ N → Ans k cap (M i j) J S i j

/-- The blocks of a remembering closure: the places' number (bp), the two tables' variables (bk, bt), the tables (K, T), the matcher's variable (bm). -/
structure RemB where
  bp : Nat
  bk : Nat
  bm : Nat
  bt : Nat
  K : Nat
  T : Nat
def RemB.All (B : RemB) (g : Nat) : Prop := g = B.bp ∨ g = B.bk ∨ g = B.bm ∨ g = B.bt ∨ g = B.K ∨ g = B.T
/-- What they hold. -/
def Rem (N : Nat) (M : Mt) (fm : Value) (B : RemB) (w : World) : Prop :=
  w.heap[B.bp]? = some (.cells #[.int .i64 ((N + 1 : Nat) : Int)] 3 (0, 0)) ∧ w.heap[B.bk]? = some (.cells #[.slice (some ⟨B.K, 0, none⟩) ((N + 1) * (N + 1)) ((N + 1) * (N + 1))] 267 (0, 0)) ∧
  w.heap[B.bm]? = some (.cells #[fm] 180 (0, 0)) ∧ w.heap[B.bt]? = some (.cells #[.slice (some ⟨B.T, 0, none⟩) ((N + 1) * (N + 1)) ((N + 1) * (N + 1))] 267 (0, 0)) ∧
  ∃ kn mt : Nat → Bool, Rw w B.K 4 ((N + 1) * (N + 1)) (fun x => .bool (kn x)) ∧ Rw w B.T 4 ((N + 1) * (N + 1)) (fun x => .bool (mt x)) ∧
    ∀ i j, i ≤ N → j ≤ N → kn (i * (N + 1) + j) = true → mt (i * (N + 1) + j) = M i j
theorem Rem.same {N : Nat} {M : Mt} {fm : Value} {B : RemB} {w w' : World} (h : Rem N M fm B w) (hs : ∀ g, B.All g → w'.heap[g]? = w.heap[g]?) : Rem N M fm B w' := by
  obtain ⟨h1, h2, h3, h4, kn, mt, h5, h6, h7⟩ := h
  exact ⟨(hs _ (.inl rfl)).trans h1, (hs _ (.inr (.inl rfl))).trans h2, (hs _ (.inr (.inr (.inl rfl)))).trans h3, (hs _ (.inr (.inr (.inr (.inl rfl))))).trans h4, kn, mt, h5.same (hs _ (.inr (.inr (.inr (.inr (.inl rfl)))))), h6.same (hs _ (.inr (.inr (.inr (.inr (.inr rfl)))))), h7⟩
theorem Rem.lt {N : Nat} {M : Mt} {fm : Value} {B : RemB} {w : World} (h : Rem N M fm B w) {g : Nat} (hg : B.All g) : g < w.heap.size := by
  obtain ⟨h1, h2, h3, h4, kn, mt, h5, h6, h7⟩ := h
  rcases hg with rfl | rfl | rfl | rfl | rfl | rfl
  · exact lt_of_block h1
  · exact lt_of_block h2
  · exact lt_of_block h3
  · exact lt_of_block h4
  · exact h5.lt
  · exact h6.lt
/-- The tables lie apart, and apart from what is never written. -/
structure RemB.Apart (B : RemB) : Prop where
  kt : B.K ≠ B.T
  kb : B.K ≠ B.bp ∧ B.K ≠ B.bk ∧ B.K ≠ B.bm ∧ B.K ≠ B.bt
  tb : B.T ≠ B.bp ∧ B.T ≠ B.bk ∧ B.T ≠ B.bm ∧ B.T ≠ B.bt

theorem place_inj {N i j i' j' : Nat} (hj : j ≤ N) (hj' : j' ≤ N) (h : i * (N + 1) + j = i' * (N + 1) + j') : i = i' ∧ j = j' := by
  have h1 : (i * (N + 1) + j) / (N + 1) = i := by
    rw [Nat.mul_comm, Nat.mul_add_div (by omega), Nat.div_eq_of_lt (by omega)]; omega
  have h2 : (i' * (N + 1) + j') / (N + 1) = i' := by
    rw [Nat.mul_comm, Nat.mul_add_div (by omega), Nat.div_eq_of_lt (by omega)]; omega
  have e : i = i' := by rw [← h1, ← h2, h]
  subst e
  exact ⟨rfl, by omega⟩
theorem place_lt {N i j : Nat} (hi : i ≤ N) (hj : j ≤ N) : i * (N + 1) + j < (N + 1) * (N + 1) := by
  have : i * (N + 1) ≤ N * (N + 1) := Nat.mul_le_mul_right _ hi
  rw [Nat.add_mul N 1 (N + 1)]
  omega
theorem place_le {N : Nat} (h : N ≤ 400) : (N + 1) * (N + 1) ≤ 160801 := Nat.mul_le_mul (by omega : N + 1 ≤ 401) (by omega : N + 1 ≤ 401)

/-- What the tables hold behind the two stores. -/
theorem Rem.put {N : Nat} {M : Mt} {fm : Value} {B : RemB} {w : World} (h : Rem N M fm B w) (ha : B.Apart) {i j : Nat} (hi : i ≤ N) (hj : j ≤ N) :
    Rem N M fm B ((w.setCell ⟨B.T, i * (N + 1) + j, none⟩ (.bool (M i j))).setCell ⟨B.K, i * (N + 1) + j, none⟩ (.bool true)) := by
  obtain ⟨h1, h2, h3, h4, kn, mt, h5, h6, h7⟩ := h
  have hk : ∀ g, g ≠ B.K → g ≠ B.T → ((w.setCell ⟨B.T, i * (N + 1) + j, none⟩ (.bool (M i j))).setCell ⟨B.K, i * (N + 1) + j, none⟩ (.bool true)).heap[g]? = w.heap[g]? := fun g h1 h2 =>
    (Below.heap_setCell _ _ _ g h1).trans (Below.heap_setCell _ _ _ g h2)
  obtain ⟨k1, k2, k3, k4⟩ := ha.kb
  obtain ⟨t1, t2, t3, t4⟩ := ha.tb
  refine ⟨(hk _ (Ne.symm k1) (Ne.symm t1)).trans h1, (hk _ (Ne.symm k2) (Ne.symm t2)).trans h2, (hk _ (Ne.symm k3) (Ne.symm t3)).trans h3, (hk _ (Ne.symm k4) (Ne.symm t4)).trans h4,
    fun x => if x = i * (N + 1) + j then true else kn x, fun x => if x = i * (N + 1) + j then M i j else mt x, ?_, ?_, ?_⟩
  · refine (((h5.same (Below.heap_setCell _ _ _ _ ha.kt)).set (i * (N + 1) + j) (.bool true))).congr fun x _ => ?_
    by_cases hx : x = i * (N + 1) + j
    · simp [hx]
    · simp [hx]
  · refine ((h6.set (i * (N + 1) + j) (.bool (M i j))).same (Below.heap_setCell _ _ _ _ (Ne.symm ha.kt))).congr fun x _ => ?_
    by_cases hx : x = i * (N + 1) + j
    · simp [hx]
    · simp [hx]
  · intro i' j' hi' hj' hkn
    by_cases hx : i' * (N + 1) + j' = i * (N + 1) + j
    · obtain ⟨rfl, rfl⟩ := place_inj hj' hj hx
      simp
    · simp only [if_neg hx] at hkn ⊢
      exact h7 i' j' hi' hj' hkn
end Go.Proofs.YtppliiingoonlaaGreatDoor
namespace Go.Proofs.YtppliiingoonlaaGreatDoor
open Go.RowKit
def remCap (B : RemB) : Array Value := #[.pointer (some ⟨B.bp, 0, none⟩), .pointer (some ⟨B.bk, 0, none⟩), .pointer (some ⟨B.bm, 0, none⟩), .pointer (some ⟨B.bt, 0, none⟩)]

/-- What a walk asks of a remembering closure's blocks. -/
theorem Rem.facts {N : Nat} {M : Mt} {fm : Value} {B : RemB} {w : World} (h : Rem N M fm B w) (p q m : Nat) (hp : p < q) (hq : q = (N + 1) * (N + 1)) (hm : m = N + 1) :
    w.cell? ⟨B.bp, 0, none⟩ = some (.int .i64 (m : Int)) ∧ w.cell? ⟨B.bk, 0, none⟩ = some (.slice (some ⟨B.K, 0, none⟩) q q) ∧ w.cell? ⟨B.bm, 0, none⟩ = some fm ∧ w.cell? ⟨B.bt, 0, none⟩ = some (.slice (some ⟨B.T, 0, none⟩) q q) ∧
      w.frozen? ⟨B.K, p, none⟩ = false ∧ w.frozen? ⟨B.T, p, none⟩ = false ∧ ∃ a b : Bool, w.cell? ⟨B.K, p, none⟩ = some (.bool a) ∧ w.cell? ⟨B.T, p, none⟩ = some (.bool b) := by
  subst hq hm
  obtain ⟨h1, h2, h3, h4, kn, mt, h5, h6, h7⟩ := h
  exact ⟨cell_of_one h1, cell_of_one h2, cell_of_one h3, cell_of_one h4, h5.free _, h6.free _, kn p, mt p, h5.cell hp, h6.cell hp⟩

theorem Rem.mid {N : Nat} {M : Mt} {fm : Value} {B : RemB} {w : World} (h : Rem N M fm B w) (ha : B.Apart) (v : Bool) (p q : Nat) (hp : p < q) (hq : q = (N + 1) * (N + 1)) :
    (w.setCell ⟨B.T, p, none⟩ (.bool v)).cell? ⟨B.bk, 0, none⟩ = some (.slice (some ⟨B.K, 0, none⟩) q q) ∧ (w.setCell ⟨B.T, p, none⟩ (.bool v)).frozen? ⟨B.K, p, none⟩ = false ∧ (∃ a : Bool, (w.setCell ⟨B.T, p, none⟩ (.bool v)).cell? ⟨B.K, p, none⟩ = some (.bool a)) ∧
    ((w.setCell ⟨B.T, p, none⟩ (.bool v)).setCell ⟨B.K, p, none⟩ (.bool true)).cell? ⟨B.bt, 0, none⟩ = some (.slice (some ⟨B.T, 0, none⟩) q q) ∧
    ((w.setCell ⟨B.T, p, none⟩ (.bool v)).setCell ⟨B.K, p, none⟩ (.bool true)).cell? ⟨B.T, p, none⟩ = some (.bool v) := by
  subst hq
  obtain ⟨h1, h2, h3, h4, kn, mt, h5, h6, h7⟩ := h
  obtain ⟨k1, k2, k3, k4⟩ := ha.kb
  obtain ⟨t1, t2, t3, t4⟩ := ha.tb
  have h5' := h5.same (Below.heap_setCell w ⟨B.T, p, none⟩ (.bool v) B.K ha.kt)
  refine ⟨cell_of_one ((Below.heap_setCell _ _ _ _ (Ne.symm t2)).trans h2), h5'.free _, ⟨_, h5'.cell hp⟩, cell_of_one ((Below.heap_setCell _ _ _ _ (Ne.symm k4)).trans ((Below.heap_setCell _ _ _ _ (Ne.symm t4)).trans h4)), ?_⟩
  have := ((h6.set p (.bool v)).same (Below.heap_setCell _ ⟨B.K, p, none⟩ (.bool true) B.T (Ne.symm ha.kt))).cell hp
  simpa using this

set_option maxHeartbeats 1600000 in
theorem rem_body (N : Nat) (M : Mt) (km : Nat) (capm : Array Value) (B : RemB) (S SJ : Nat → Prop) (J : World → Prop) (hN : N ≤ 400) (ha : B.Apart) (hK : S B.K) (hT : S B.T)
    (hJ : Keeps J SJ) (hJh : Has J SJ) (hJK : ¬ SJ B.K) (hJT : ¬ SJ B.T) (hen : ∀ args w, (callFunc km args).run Tryz.prog w = .ok (.enter km args) w) (i j : Nat) (hij : i ≤ j) (hj : j ≤ N)
    (hin : Ans km capm (M i j) (fun w => J w ∧ Rem N M (.func (.func km) #[] capm) B w) S i j) :
    Ans 241 (remCap B) (M i j) (fun w => J w ∧ Rem N M (.func (.func km) #[] capm) B w) S i j := by
  intro w hw
  obtain ⟨hJw, hR⟩ := hw
  obtain ⟨h1, h2, h3, h4, kn, mt, h5, h6, h7⟩ := id hR
  have c1 := cell_of_one h1
  have c2 := cell_of_one h2
  have c3 := cell_of_one h3
  have c4 := cell_of_one h4
  have hpl := place_lt (N := N) (i := i) (j := j) (by omega) hj
  have hle := place_le hN
  have c5 := h5.cell hpl
  have c6 := h6.cell hpl
  obtain ⟨p, hp⟩ : ∃ p, p = i * (N + 1) + j := ⟨_, rfl⟩
  obtain ⟨q, hq⟩ : ∃ q, q = (N + 1) * (N + 1) := ⟨_, rfl⟩
  obtain ⟨m, hm⟩ : ∃ m, m = N + 1 := ⟨_, rfl⟩
  obtain ⟨t, ht⟩ : ∃ t, t = i * (N + 1) := ⟨_, rfl⟩
  have hm1 : wrap64 ((i : Int) * (m : Int)) = (t : Int) := by
    rw [hm, ht, ← Int.natCast_mul]
    unfold wrap64
    have : i * (N + 1) ≤ 1000000 := by omega
    omega
  have hm2 : wrap64 ((t : Int) + (j : Int)) = (p : Int) := by
    unfold wrap64
    omega
  rw [← hp] at hpl c5 c6
  rw [← hq] at hpl c2 c4 hle
  rw [← hm] at c1
  have HP := Lib.hid hp
  have HM := Lib.hid (fun w1 (h : Rem N M (.func (.func km) #[] capm) B w1) v => h.mid ha v p q hpl hq)
  have HPUT := Lib.hid (fun w1 (h : Rem N M (.func (.func km) #[] capm) B w1) => h.put ha (Nat.le_trans hij hj) hj)
  rw [← hp] at HPUT
  have HF := Lib.hid (fun w1 (h : Rem N M (.func (.func km) #[] capm) B w1) => h.facts p q m hpl hq hm)
  have HC := Lib.hid (fun w' (hb : Below w.heap.size w w') => (hin w' ⟨hJ w w' hJw (fun g hg => hb.block g (hJh w hJw g hg)), hR.same (fun g hg => hb.block g (hR.lt hg))⟩).mono (fun e w1 ⟨he, h1, h2⟩ => (⟨he, h1, (⟨h2.os.trans hb.os, h2.tape.trans hb.tape, h2.output.trans hb.output, Nat.le_trans hb.size h2.size, fun g hg hs => (h2.block g (Nat.lt_of_lt_of_le hg hb.size) hs).trans (hb.block g hg)⟩ : Chg S w w1)⟩ : _ ∧ (J w1 ∧ Rem N M (.func (.func km) #[] capm) B w1) ∧ _)))
  have HJ := Lib.hid (fun w1 (h : J w1) (a b : Addr) (u v : Value) (ha : ¬ SJ a.block) (hb : ¬ SJ b.block) => hJ w1 ((w1.setCell a u).setCell b v) h (fun g hg => (Below.heap_setCell _ _ _ g (fun e => hb (e ▸ hg))).trans (Below.heap_setCell _ _ _ g (fun e => ha (e ▸ hg)))))
  have h8 := h7 i j (Nat.le_trans hij hj) hj
  rw [← hp] at h8
  unfold remCap
  cases hkn : kn p with
  | true =>
    rw [hkn] at c5 h8
    rw [h8 rfl] at c6
    have HR := Lib.hid hR
    have HJW := Lib.hid hJw
    clear hp hq hm ht hin hR h1 h2 h3 h4 hJw h5 h6 h7 h8 hkn hJ hJh
    go_enter Tryz.func241, Tryz.ntmps241
    go_wp2_with fail
    go_ret
    exact ⟨rfl, ⟨HJW.out, HR.out⟩, Chg.refl _ _⟩
  | false =>
    rw [hkn] at c5
    clear hp hq hm ht hin hR h1 h2 h3 h4 hJw h5 h6 h7 h8 hkn hJ hJh
    go_enter Tryz.func241, Tryz.ntmps241
    go_wp2_with fail
    go_region_with (go_at_fn km; refine (HC.out _ (by first | exact Below.refl _ _ | exact (Below.refl _ _).drew)).mono ?_; rintro e w1 ⟨rfl, ⟨hJ1, hR1⟩, hc1⟩; obtain ⟨d1, d2, d3, d4, f5, f6, a1, b1, d5, d6⟩ := HF.out _ hR1)
    all_goals
      obtain ⟨m1, m2, ⟨a2, m3⟩, m4, m5⟩ := HM.out _ hR1 (M i j)
      have HE := Lib.hid (show (J ((w1.setCell ⟨B.T, p, none⟩ (.bool (M i j))).setCell ⟨B.K, p, none⟩ (.bool true)) ∧ Rem N M (.func (.func km) #[] capm) B ((w1.setCell ⟨B.T, p, none⟩ (.bool (M i j))).setCell ⟨B.K, p, none⟩ (.bool true))) ∧ Chg S w ((w1.setCell ⟨B.T, p, none⟩ (.bool (M i j))).setCell ⟨B.K, p, none⟩ (.bool true)) from ⟨⟨HJ.out w1 hJ1 _ _ _ _ hJT hJK, HPUT.out _ hR1⟩, (hc1.set (a := ⟨B.T, p, none⟩) hT _).set (a := ⟨B.K, p, none⟩) hK _⟩)
      clear hJ1 hR1 hc1 c1 c2 c3 c4 c5 c6 d1 d2 d3 d4 d5 d6 f5 f6
      go_wp2_with fail
      go_ret
      exact ⟨rfl, HE.out⟩
end Go.Proofs.YtppliiingoonlaaGreatDoor
namespace Go.Proofs.YtppliiingoonlaaGreatDoor
open Go.RowKit
set_option maxRecDepth 100000 in
set_option maxHeartbeats 1600000 in
theorem remembered_any (N : Nat) (M : Mt) (km : Nat) (capm : Array Value) (w : World) (hN : N ≤ 400) :
    Calls Tryz.prog 233 #[.func (.func km) #[] capm, .int .i64 (N : Int)] w fun e w' => ∃ B : RemB, e = .returned (.func (.func 241) #[] (remCap B)) ∧
      B.Apart ∧ (∀ g, B.All g → w.heap.size ≤ g) ∧ Rem N M (.func (.func km) #[] capm) B w' ∧ Below w.heap.size w w' := by
  have hle := place_le hN
  obtain ⟨q, hq⟩ : ∃ q, q = (N + 1) * (N + 1) := ⟨_, rfl⟩
  obtain ⟨m, hm⟩ : ∃ m, m = N + 1 := ⟨_, rfl⟩
  have hadd : wrap64 ((N : Int) + 1) = (m : Int) := by unfold wrap64; omega
  have hmul : wrap64 ((m : Int) * (m : Int)) = (q : Int) := by
    rw [hm, hq, ← Int.natCast_mul]
    unfold wrap64
    omega
  rw [← hq] at hle
  have hmk : ∀ w1 : World, (Instr.makeSlice 267 (.int .i64 (q : Int)) (.int .i64 (q : Int))).run Tryz.prog w1 = .ok (.slice (some ⟨w1.heap.size, 0, none⟩) q q) (w1.alloc (.cells ((List.range q).map fun _ => Value.bool false).toArray 4)) := fun w1 => by
    obtain ⟨i, hi, hi1, hi2, hi3⟩ : ∃ i : TypeInfo, Tryz.prog.info? 4 = some i ∧ i.zero = some (.bool false) ∧ i.size = 1 ∧ i.bytes = 1 := ⟨(Tryz.prog.info? 4).get!, by kernel_rfl, by kernel_rfl, by kernel_rfl, by kernel_rfl⟩
    have h := run_make (P := Tryz.prog) w1 267 4 i (.bool false) Tryz.underlying267 hi hi1 .i64 .i64 (q : Int) (q : Int) (by omega) (Int.le_refl _) (by rw [hi3]; omega) (by omega)
    rw [h, hi2, Int.toNat_natCast, made_row (.bool false) q rfl]
  have HQ := Lib.hid hq
  have HM := Lib.hid hm
  clear hq hm hN
  go_enter Tryz.func233, Tryz.ntmps233
  go_wp2_with fail
  go_ret
  refine ⟨⟨w.heap.size + 1, w.heap.size + 3, w.heap.size, w.heap.size + 5, w.heap.size + 2, w.heap.size + 4⟩, rfl, ⟨by simp, ⟨by simp, by simp, by simp, by simp⟩, ⟨by simp, by simp, by simp, by simp⟩⟩, fun g hg => ?_, ?_, ?_⟩
  · rcases hg with h | h | h | h | h | h <;> (simp only at h; omega)
  · have hL : ∀ (v : World) (o : Obj), (v.alloc o).heap[v.heap.size]? = some o := fun v o => by
      show (v.heap.push o)[v.heap.size]? = _
      simp
    have hO : ∀ (v : World) (o : Obj) (k : Nat), k < v.heap.size → (v.alloc o).heap[k]? = v.heap[k]? := fun v o k h => Below.heap_alloc v o k h
    obtain ⟨w1, hw1⟩ : ∃ w1, w1 = w.alloc (.cells #[.func (.func km) #[] capm] 180) := ⟨_, rfl⟩
    obtain ⟨w2, hw2⟩ : ∃ w2, w2 = w1.alloc (.cells #[.int .i64 (m : Int)] 3) := ⟨_, rfl⟩
    obtain ⟨w3, hw3⟩ : ∃ w3, w3 = w2.alloc (.cells ((List.range q).map fun _ => Value.bool false).toArray 4) := ⟨_, rfl⟩
    obtain ⟨w4, hw4⟩ : ∃ w4, w4 = w3.alloc (.cells #[.slice (some ⟨w.heap.size + 1 + 1, 0, none⟩) q q] 267) := ⟨_, rfl⟩
    obtain ⟨w5, hw5⟩ : ∃ w5, w5 = w4.alloc (.cells ((List.range q).map fun _ => Value.bool false).toArray 4) := ⟨_, rfl⟩
    obtain ⟨w6, hw6⟩ : ∃ w6, w6 = w5.alloc (.cells #[.slice (some ⟨w.heap.size + 1 + 1 + 1 + 1, 0, none⟩) q q] 267) := ⟨_, rfl⟩
    have z1 : w1.heap.size = w.heap.size + 1 := by rw [hw1]; simp
    have z2 : w2.heap.size = w.heap.size + 2 := by rw [hw2]; simp [z1]
    have z3 : w3.heap.size = w.heap.size + 3 := by rw [hw3]; simp [z2]
    have z4 : w4.heap.size = w.heap.size + 4 := by rw [hw4]; simp [z3]
    have z5 : w5.heap.size = w.heap.size + 5 := by rw [hw5]; simp [z4]
    rw [← hw1, ← hw2, ← hw3, ← hw4, ← hw5, ← hw6]
    have o2 : ∀ k, k < w.heap.size + 1 → w2.heap[k]? = w1.heap[k]? := fun k h => by rw [hw2]; exact hO _ _ _ (by omega)
    have o3 : ∀ k, k < w.heap.size + 2 → w3.heap[k]? = w2.heap[k]? := fun k h => by rw [hw3]; exact hO _ _ _ (by omega)
    have o4 : ∀ k, k < w.heap.size + 3 → w4.heap[k]? = w3.heap[k]? := fun k h => by rw [hw4]; exact hO _ _ _ (by omega)
    have o5 : ∀ k, k < w.heap.size + 4 → w5.heap[k]? = w4.heap[k]? := fun k h => by rw [hw5]; exact hO _ _ _ (by omega)
    have o6 : ∀ k, k < w.heap.size + 5 → w6.heap[k]? = w5.heap[k]? := fun k h => by rw [hw6]; exact hO _ _ _ (by omega)
    have n1 : w1.heap[w.heap.size]? = some (.cells #[.func (.func km) #[] capm] 180) := by rw [hw1]; exact hL _ _
    have n2 : w2.heap[w.heap.size + 1]? = some (.cells #[.int .i64 (m : Int)] 3) := by rw [hw2, ← z1]; exact hL _ _
    have n3 : w3.heap[w.heap.size + 2]? = some (.cells ((List.range q).map fun _ => Value.bool false).toArray 4) := by rw [hw3, ← z2]; exact hL _ _
    have n4 : w4.heap[w.heap.size + 3]? = some (.cells #[.slice (some ⟨w.heap.size + 1 + 1, 0, none⟩) q q] 267) := by rw [hw4, ← z3]; exact hL _ _
    have n5 : w5.heap[w.heap.size + 4]? = some (.cells ((List.range q).map fun _ => Value.bool false).toArray 4) := by rw [hw5, ← z4]; exact hL _ _
    have n6 : w6.heap[w.heap.size + 5]? = some (.cells #[.slice (some ⟨w.heap.size + 1 + 1 + 1 + 1, 0, none⟩) q q] 267) := by rw [hw6, ← z5]; exact hL _ _
    have eq := HQ.out
    have em := HM.out
    refine ⟨?_, ?_, ?_, ?_, fun _ => false, fun _ => false, ?_, ?_, fun i j _ _ h => by simp at h⟩
    · show w6.heap[w.heap.size + 1]? = _
      rw [o6 _ (by omega), o5 _ (by omega), o4 _ (by omega), o3 _ (by omega), n2, em]
    · show w6.heap[w.heap.size + 3]? = _
      rw [o6 _ (by omega), o5 _ (by omega), n4, eq]
    · show w6.heap[w.heap.size]? = _
      rw [o6 _ (by omega), o5 _ (by omega), o4 _ (by omega), o3 _ (by omega), o2 _ (by omega), n1]
    · show w6.heap[w.heap.size + 5]? = _
      rw [n6, eq]
    · show w6.heap[w.heap.size + 2]? = _
      rw [o6 _ (by omega), o5 _ (by omega), o4 _ (by omega), n3, eq]
    · show w6.heap[w.heap.size + 4]? = _
      rw [o6 _ (by omega), n5, eq]
  · exact ((((((Below.refl _ _).alloc (Nat.le_refl _) _).alloc (by simp) _).alloc (by simp; omega) _).alloc (by simp; omega) _).alloc (by simp; omega) _).alloc (by simp; omega) _
end Go.Proofs.YtppliiingoonlaaGreatDoor
namespace Go.Proofs.YtppliiingoonlaaGreatDoor
open Go.RowKit
/-- TwoV variables that hold closures, and what these hold. -/
def TwoV (k1 : Nat) (cap1 : Array Value) (k2 : Nat) (cap2 : Array Value) (bl br : Nat) (J1 J2 : World → Prop) (w : World) : Prop :=
  w.heap[bl]? = some (.cells #[.func (.func k1) #[] cap1] 180 (0, 0)) ∧ w.heap[br]? = some (.cells #[.func (.func k2) #[] cap2] 180 (0, 0)) ∧ J1 w ∧ J2 w
/-- OneV such. -/
def OneV (k1 : Nat) (cap1 : Array Value) (bl : Nat) (J1 : World → Prop) (w : World) : Prop := w.heap[bl]? = some (.cells #[.func (.func k1) #[] cap1] 180 (0, 0)) ∧ J1 w
theorem Chg.was {S : Nat → Prop} {w w' : World} (h : Chg S w w') {g : Nat} {o : Obj} (hg : w.heap[g]? = some o) (hn : ¬ S g) : w'.heap[g]? = some o := (h.block g (lt_of_block hg) hn).trans hg
theorem Mat.past {N : Nat} {M : Mt} {k : Nat} {cap : Array Value} {J : World → Prop} {S S' : Nat → Prop} (m : Mat N M k cap J S) {w w' : World} (h : J w) (hc : Chg S' w w') (hd : ∀ g, S g → ¬ S' g) : J w' :=
  m.keeps w w' h fun g hg => hc.block g (m.has w h g hg) (hd g hg)

section
variable {N : Nat} {p q : Mt} {k1 k2 : Nat} {cap1 cap2 : Array Value} {J1 J2 : World → Prop} {S1 S2 : Nat → Prop} {bl br : Nat}
/-- The first one's call. -/
theorem two_left (m1 : Mat N p k1 cap1 J1 S1) (m2 : Mat N q k2 cap2 J2 S2) (hd : ∀ g, S1 g → ¬ S2 g) (h1 : ¬ S1 bl) (h2 : ¬ S1 br) {w0 : World} {i j : Nat} (hij : i ≤ j) (hj : j ≤ N) {w : World} (hw : TwoV k1 cap1 k2 cap2 bl br J1 J2 w) (hc : Chg (fun g => S1 g ∨ S2 g) w0 w) :
    Calls Tryz.prog k1 (#[.int .i64 (i : Int), .int .i64 (j : Int)] ++ cap1) w fun e w' => e = .returned (.bool (p i j)) ∧ TwoV k1 cap1 k2 cap2 bl br J1 J2 w' ∧ Chg (fun g => S1 g ∨ S2 g) w0 w' :=
  (m1.call i j hij hj w hw.2.2.1).mono fun _ _ ⟨he, hJ, hch⟩ => ⟨he, ⟨hch.was hw.1 h1, hch.was hw.2.1 h2, hJ, m2.past hw.2.2.2 hch fun g hg hg' => hd g hg' hg⟩, hc.trans (hch.more fun _ h => .inl h)⟩
theorem two_right (m1 : Mat N p k1 cap1 J1 S1) (m2 : Mat N q k2 cap2 J2 S2) (hd : ∀ g, S1 g → ¬ S2 g) (h1 : ¬ S2 bl) (h2 : ¬ S2 br) {w0 : World} {i j : Nat} (hij : i ≤ j) (hj : j ≤ N) {w : World} (hw : TwoV k1 cap1 k2 cap2 bl br J1 J2 w) (hc : Chg (fun g => S1 g ∨ S2 g) w0 w) :
    Calls Tryz.prog k2 (#[.int .i64 (i : Int), .int .i64 (j : Int)] ++ cap2) w fun e w' => e = .returned (.bool (q i j)) ∧ TwoV k1 cap1 k2 cap2 bl br J1 J2 w' ∧ Chg (fun g => S1 g ∨ S2 g) w0 w' :=
  (m2.call i j hij hj w hw.2.2.2).mono fun _ _ ⟨he, hJ, hch⟩ => ⟨he, ⟨hch.was hw.1 h1, hch.was hw.2.1 h2, m1.past hw.2.2.1 hch hd, hJ⟩, hc.trans (hch.more fun _ h => .inr h)⟩

set_option maxHeartbeats 1600000 in
theorem cat_body (m1 : Mat N p k1 cap1 J1 S1) (m2 : Mat N q k2 cap2 J2 S2) (hd : ∀ g, S1 g → ¬ S2 g) (h11 : ¬ S1 bl) (h12 : ¬ S1 br) (h21 : ¬ S2 bl) (h22 : ¬ S2 br) (hN : N ≤ 400) (i j : Nat) (hij : i ≤ j) (hj : j ≤ N) :
    Ans 234 #[.pointer (some ⟨bl, 0, none⟩), .pointer (some ⟨br, 0, none⟩)] (catM p q i j) (TwoV k1 cap1 k2 cap2 bl br J1 J2) (fun g => S1 g ∨ S2 g) i j := by
  intro w hw
  have en1 := m1.enter
  have en2 := m2.enter
  have HL := Lib.hid (fun (i j : Nat) (hij : i ≤ j) (hj : j ≤ N) (wr : World) (h : TwoV k1 cap1 k2 cap2 bl br J1 J2 wr) (hc : Chg (fun g => S1 g ∨ S2 g) w wr) => two_left m1 m2 hd h11 h12 hij hj h hc)
  have HR := Lib.hid (fun (i j : Nat) (hij : i ≤ j) (hj : j ≤ N) (wr : World) (h : TwoV k1 cap1 k2 cap2 bl br J1 J2 wr) (hc : Chg (fun g => S1 g ∨ S2 g) w wr) => two_right m1 m2 hd h21 h22 hij hj h hc)
  have HW := Lib.hid hw
  clear m1 m2 hd h11 h12 h21 h22 hw
  go_enter Tryz.func234, Tryz.ntmps234
  go_wp2_with fail
  go_loopw [7] (fun m wr => ∃ x : Nat, m = .int .i64 x ∧ i ≤ x ∧ x ≤ j + 1 ∧ (∀ y, i ≤ y → y < x → (p i y && q y j) = false) ∧ TwoV k1 cap1 k2 cap2 bl br J1 J2 wr ∧ Chg (fun g => S1 g ∨ S2 g) w wr) (fun m _ => j + 1 - (intOf m).toNat)
  case atStart => exact ⟨i, rfl, Nat.le_refl _, by omega, fun y h1 h2 => by omega, HW.out, Chg.refl _ _⟩
  case round =>
    obtain ⟨x, rfl, hix, hxj, hno, hT, hc⟩ := hrel
    by_cases hx : x ≤ j
    · have c1 := cell_of_one hT.1
      have HNO := Lib.hid hno
      have HT := Lib.hid hT
      have HCC := Lib.hid hc
      clear hno hT hc
      cases hp : p i x with
      | false =>
        have HS : Hid (∀ y, i ≤ y → y < x + 1 → (p i y && q y j) = false) := Lib.hid (fun y h1 h2 => by
          by_cases hy : y = x
          · rw [hy, hp]; rfl
          · exact HNO.out y h1 (by omega))
        have HL' := Lib.hid (HL.out i x hix (by omega) wr HT.out HCC.out)
        rw [hp] at HL'
        clear hp
        go_wp2_with (go_at_fn k1; refine HL'.out.mono ?_; rintro e w1 ⟨rfl, hT1, hc1⟩)
        have HE := Lib.hid (And.intro hT1 hc1)
        clear hT1 hc1
        go_roundw
        case rel => exact ⟨x + 1, by go_num, by omega, by omega, HS.out, HE.out.1, HE.out.2⟩
        case measure => simp [intOf]; omega
      | true =>
        cases hq : q x j with
        | false =>
          have HS : Hid (∀ y, i ≤ y → y < x + 1 → (p i y && q y j) = false) := Lib.hid (fun y h1 h2 => by
            by_cases hy : y = x
            · rw [hy, hp, hq]; rfl
            · exact HNO.out y h1 (by omega))
          have HL' := Lib.hid (HL.out i x hix (by omega) wr HT.out HCC.out)
          have HR' := Lib.hid (HR.out x j hx hj)
          rw [hp] at HL'
          rw [hq] at HR'
          clear hp hq
          go_wp2_with (first | (go_at_fn k1; refine HL'.out.mono ?_; rintro e w1 ⟨rfl, hT1, hc1⟩; have c2 := cell_of_one hT1.2.1) | (go_at_fn k2; refine (HR'.out _ hT1 hc1).mono ?_; rintro e w2 ⟨rfl, hT2, hc2⟩))
          have HE := Lib.hid (And.intro hT2 hc2)
          clear hT1 hc1 hT2 hc2 c2
          go_roundw
          case rel => exact ⟨x + 1, by go_num, by omega, by omega, HS.out, HE.out.1, HE.out.2⟩
          case measure => simp [intOf]; omega
        | true =>
          have HB : Hid (catM p q i j = true) := Lib.hid (catM_yes hix hx (by rw [hp, hq]; rfl))
          have HL' := Lib.hid (HL.out i x hix (by omega) wr HT.out HCC.out)
          have HR' := Lib.hid (HR.out x j hx hj)
          rw [hp] at HL'
          rw [hq] at HR'
          clear hp hq
          go_wp2_with (first | (go_at_fn k1; refine HL'.out.mono ?_; rintro e w1 ⟨rfl, hT1, hc1⟩; have c2 := cell_of_one hT1.2.1) | (go_at_fn k2; refine (HR'.out _ hT1 hc1).mono ?_; rintro e w2 ⟨rfl, hT2, hc2⟩))
          have HE := Lib.hid (And.intro hT2 hc2)
          clear hT1 hc1 hT2 hc2 c2
          go_ret
          exact ⟨congrArg (fun b => Ending.returned (.bool b)) HB.out.symm, HE.out.1, HE.out.2⟩
    · have HB : Hid (catM p q i j = false) := Lib.hid (catM_no fun m h1 h2 => hno m h1 (by omega))
      have HT := Lib.hid hT
      have HCC := Lib.hid hc
      clear hno hT hc
      go_wp2_with fail
      go_ret
      exact ⟨congrArg (fun b => Ending.returned (.bool b)) HB.out.symm, HT.out, HCC.out⟩

/-- What a repetition's closure holds: the part's variable, its own variable. -/
def StJ (k1 : Nat) (cap1 : Array Value) (kr : Nat) (capr : Array Value) (bl br : Nat) (J1 : World → Prop) (w : World) : Prop :=
  w.heap[bl]? = some (.cells #[.func (.func k1) #[] cap1] 180 (0, 0)) ∧ w.heap[br]? = some (.cells #[.func (.func kr) #[] capr] 180 (0, 0)) ∧ J1 w

set_option maxHeartbeats 1600000 in
theorem star_body {kr : Nat} {capr : Array Value} {R : World → Prop} {S : Nat → Prop} (m1 : Mat N p k1 cap1 J1 S1) (hS : ∀ g, S1 g → S g) (h11 : ¬ S1 bl) (h12 : ¬ S1 br) (hR : ∀ w w', R w → Chg S1 w w' → R w')
    (enr : ∀ args w, (callFunc kr args).run Tryz.prog w = .ok (.enter kr args) w) (hN : N ≤ 400) (i j : Nat) (hij : i ≤ j) (hj : j ≤ N)
    (hrest : ∀ m, i < m → m ≤ j → Ans kr capr (starM p m j) (fun w => StJ k1 cap1 kr capr bl br J1 w ∧ R w) S m j) :
    Ans 235 #[.pointer (some ⟨bl, 0, none⟩), .pointer (some ⟨br, 0, none⟩)] (starM p i j) (fun w => StJ k1 cap1 kr capr bl br J1 w ∧ R w) S i j := by
  intro w hw
  have en1 := m1.enter
  by_cases he : i = j
  · subst he
    have HB := Lib.hid (starM_self p i)
    have HW := Lib.hid hw
    clear m1 hS h11 h12 hR enr hrest hw en1
    go_enter Tryz.func235, Tryz.ntmps235
    go_wp2_with fail
    go_ret
    exact ⟨congrArg (fun b => Ending.returned (.bool b)) HB.out.symm, HW.out, Chg.refl _ _⟩
  · have HL := Lib.hid (fun (x : Nat) (hix : i ≤ x) (hxj : x ≤ j) (wr : World) (h : StJ k1 cap1 kr capr bl br J1 wr ∧ R wr) (hc : Chg S w wr) =>
      (m1.call i x hix (Nat.le_trans hxj hj) wr h.1.2.2).mono (fun e w' ⟨he, hJ, hch⟩ => (⟨he, ⟨⟨hch.was h.1.1 h11, hch.was h.1.2.1 h12, hJ⟩, hR wr w' h.2 hch⟩, hc.trans (hch.more hS)⟩ : e = Ending.returned (.bool (p i x)) ∧ (StJ k1 cap1 kr capr bl br J1 w' ∧ R w') ∧ Chg S w w')))
    have HR := Lib.hid (fun (x : Nat) (hix : i < x) (hxj : x ≤ j) (wr : World) (h : StJ k1 cap1 kr capr bl br J1 wr ∧ R wr) (hc : Chg S w wr) =>
      (hrest x hix hxj wr h).mono (fun e w' ⟨he, h', hch⟩ => (⟨he, h', hc.trans hch⟩ : e = Ending.returned (.bool (starM p x j)) ∧ (StJ k1 cap1 kr capr bl br J1 w' ∧ R w') ∧ Chg S w w')))
    have HW := Lib.hid hw
    have HNE := Lib.hid he
    have hlt : i < j := by omega
    have e0 : ((i : Int) == (j : Int)) = false := by simp; omega
    clear m1 hS h11 h12 hR hrest hw he
    go_enter Tryz.func235, Tryz.ntmps235
    go_wp2_with fail
    go_loopw [7] (fun m wr => ∃ x : Nat, m = .int .i64 x ∧ i < x ∧ x ≤ j + 1 ∧ (∀ y, i < y → y < x → (p i y && starM p y j) = false) ∧ (StJ k1 cap1 kr capr bl br J1 wr ∧ R wr) ∧ Chg S w wr) (fun m _ => j + 1 - (intOf m).toNat)
    case atStart => exact ⟨i + 1, by go_num, Nat.lt_succ_self _, by omega, fun y h1 h2 => by omega, HW.out, Chg.refl _ _⟩
    case round =>
      obtain ⟨x, rfl, hix, hxj, hno, hT, hc⟩ := hrel
      by_cases hx : x ≤ j
      · have c1 := cell_of_one hT.1.1
        have HNO := Lib.hid hno
        have HT := Lib.hid hT
        have HCC := Lib.hid hc
        clear hno hT hc
        cases hp : p i x with
        | false =>
          have HS : Hid (∀ y, i < y → y < x + 1 → (p i y && starM p y j) = false) := Lib.hid (fun y h1 h2 => by
            by_cases hy : y = x
            · rw [hy, hp]; rfl
            · exact HNO.out y h1 (by omega))
          have HL' := Lib.hid (HL.out x (Nat.le_of_lt hix) hx wr HT.out HCC.out)
          rw [hp] at HL'
          clear hp
          go_wp2_with (go_at_fn k1; refine HL'.out.mono ?_; rintro e w1 ⟨rfl, hT1, hc1⟩)
          have HE := Lib.hid (And.intro hT1 hc1)
          clear hT1 hc1
          go_roundw
          case rel => exact ⟨x + 1, by go_num, by omega, by omega, HS.out, HE.out.1, HE.out.2⟩
          case measure => simp [intOf]; omega
        | true =>
          cases hq : starM p x j with
          | false =>
            have HS : Hid (∀ y, i < y → y < x + 1 → (p i y && starM p y j) = false) := Lib.hid (fun y h1 h2 => by
              by_cases hy : y = x
              · rw [hy, hp, hq]; rfl
              · exact HNO.out y h1 (by omega))
            have HL' := Lib.hid (HL.out x (Nat.le_of_lt hix) hx wr HT.out HCC.out)
            have HR' := Lib.hid (HR.out x hix hx)
            rw [hp] at HL'
            rw [hq] at HR'
            clear hp hq
            go_wp2_with (first | (go_at_fn k1; refine HL'.out.mono ?_; rintro e w1 ⟨rfl, hT1, hc1⟩; have c2 := cell_of_one hT1.1.2.1) | (go_at_fn kr; refine (HR'.out _ hT1 hc1).mono ?_; rintro e w2 ⟨rfl, hT2, hc2⟩))
            have HE := Lib.hid (And.intro hT2 hc2)
            clear hT1 hc1 hT2 hc2 c2
            go_roundw
            case rel => exact ⟨x + 1, by go_num, by omega, by omega, HS.out, HE.out.1, HE.out.2⟩
            case measure => simp [intOf]; omega
          | true =>
            have HB : Hid (starM p i j = true) := Lib.hid (starM_yes hix hp hq)
            have HL' := Lib.hid (HL.out x (Nat.le_of_lt hix) hx wr HT.out HCC.out)
            have HR' := Lib.hid (HR.out x hix hx)
            rw [hp] at HL'
            rw [hq] at HR'
            clear hp hq
            go_wp2_with (first | (go_at_fn k1; refine HL'.out.mono ?_; rintro e w1 ⟨rfl, hT1, hc1⟩; have c2 := cell_of_one hT1.1.2.1) | (go_at_fn kr; refine (HR'.out _ hT1 hc1).mono ?_; rintro e w2 ⟨rfl, hT2, hc2⟩))
            have HE := Lib.hid (And.intro hT2 hc2)
            clear hT1 hc1 hT2 hc2 c2
            go_ret
            exact ⟨congrArg (fun b => Ending.returned (.bool b)) HB.out.symm, HE.out.1, HE.out.2⟩
      · have HB : Hid (starM p i j = false) := Lib.hid (starM_no HNE.out fun m h1 h2 => hno m h1 (by omega))
        have HT := Lib.hid hT
        have HCC := Lib.hid hc
        clear hno hT hc
        go_wp2_with fail
        go_ret
        exact ⟨congrArg (fun b => Ending.returned (.bool b)) HB.out.symm, HT.out, HCC.out⟩
end
end Go.Proofs.YtppliiingoonlaaGreatDoor
namespace Go.Proofs.YtppliiingoonlaaGreatDoor
open Go.RowKit
theorem enters_fn {f : FuncId} {fn : Func} {c : Code} (hf : Tryz.prog.funcs[f]? = some fn) (hname : (fn.name == "runtime.NumGoroutine") = false) (hb : fn.body = some c) : ∀ args w, (callFunc f args).run Tryz.prog w = .ok (.enter f args) w := enters_of hf hname hb
theorem mat_still {N : Nat} {M : Mt} {k : Nat} (hen : ∀ args w, (callFunc k args).run Tryz.prog w = .ok (.enter k args) w)
    (h : ∀ i j, i ≤ j → j ≤ N → ∀ w, Calls Tryz.prog k #[.int .i64 (i : Int), .int .i64 (j : Int)] w fun e w' => e = .returned (.bool (M i j)) ∧ w = w') : Mat N M k #[] (fun _ => True) (fun _ => False) :=
  ⟨hen, fun _ _ _ _ => trivial, fun _ _ _ h => h.elim, fun i j hij hj w _ => (h i j hij hj w).mono fun _ _ ⟨he, hw⟩ => ⟨he, trivial, hw ▸ Chg.refl _ _⟩⟩

theorem empty_call (i j : Nat) (w : World) : Calls Tryz.prog 199 #[.int .i64 (i : Int), .int .i64 (j : Int)] w fun e w' => e = .returned (.bool (decide (i = j))) ∧ w = w' := by
  have HB : Hid (((i : Int) == (j : Int)) = decide (i = j)) := Lib.hid (by
    by_cases h : i = j
    · subst h; simp
    · simp [h]; omega)
  go_enter Tryz.func199, Tryz.ntmps199
  go_wp2_with fail
  go_ret
  exact ⟨congrArg (fun b => Ending.returned (.bool b)) HB.out, rfl⟩
theorem any_call (i j : Nat) (w : World) (hij : i ≤ j) (hj : j ≤ 400) : Calls Tryz.prog 201 #[.int .i64 (i : Int), .int .i64 (j : Int)] w fun e w' => e = .returned (.bool (decide (j = i + 1))) ∧ w = w' := by
  have HB : Hid ((((j : Int) - (i : Int)) == 1) = decide (j = i + 1)) := Lib.hid (by
    by_cases h : j = i + 1
    · subst h; simp; omega
    · simp [h]; omega)
  go_enter Tryz.func201, Tryz.ntmps201
  go_wp2_with fail
  go_ret
  exact ⟨congrArg (fun b => Ending.returned (.bool b)) HB.out, rfl⟩
theorem none_call (i j : Nat) (w : World) : Calls Tryz.prog 207 #[.int .i64 (i : Int), .int .i64 (j : Int)] w fun e w' => e = .returned (.bool false) ∧ w = w' := by
  go_enter Tryz.func207, Tryz.ntmps207
  go_wp2_with fail
  go_ret
  exact ⟨rfl, rfl⟩
theorem part_eq (s : ByteArray) (i j : Nat) : (s.extract i j).toList = part s.data.toList i j := by
  rw [ByteArray.toList_eq]
  simp only [ByteArray.data_extract, Array.toList_extract, List.extract_eq_take_drop]
  rfl
theorem letter_call (s l : ByteArray) (bs bf i j : Nat) (w : World) (hs : w.cell? ⟨bs, 0, none⟩ = some (.string s)) (hl : w.cell? ⟨bf, 0, none⟩ = some (.string l)) (hij : i ≤ j) (hj : j ≤ s.size) :
    Calls Tryz.prog 200 #[.int .i64 (i : Int), .int .i64 (j : Int), .pointer (some ⟨bs, 0, none⟩), .pointer (some ⟨bf, 0, none⟩)] w fun e w' => e = .returned (.bool (decide (part s.data.toList i j = l.data.toList))) ∧ Below w.heap.size w w' := by
  go_enter Tryz.func200, Tryz.ntmps200
  go_wp2_with fail
  go_region_held3 (fun w' => w'.cell? ⟨bs, 0, none⟩ = some (.string s) ∧ w'.cell? ⟨bf, 0, none⟩ = some (.string l)) (first | exact ⟨hs, hl⟩ | go_keep) (fail)
  go_wp2_with fail
  go_ret
  refine ⟨congrArg (fun b => Ending.returned (.bool b)) ?_, (Below.refl _ _).drew⟩
  rw [part_eq, ByteArray.toList_eq]
  by_cases h : part s.data.toList i j = l.data.toList
  · simp [h]
  · simp [h]
section
variable {N : Nat} {p q : Mt} {k1 k2 : Nat} {cap1 cap2 : Array Value} {J1 J2 : World → Prop} {S1 S2 : Nat → Prop} {bl br : Nat}
set_option maxHeartbeats 800000 in
theorem or_body (m1 : Mat N p k1 cap1 J1 S1) (m2 : Mat N q k2 cap2 J2 S2) (hd : ∀ g, S1 g → ¬ S2 g) (h11 : ¬ S1 bl) (h12 : ¬ S1 br) (h21 : ¬ S2 bl) (h22 : ¬ S2 br) (i j : Nat) (hij : i ≤ j) (hj : j ≤ N) :
    Ans 203 #[.pointer (some ⟨bl, 0, none⟩), .pointer (some ⟨br, 0, none⟩)] (p i j || q i j) (TwoV k1 cap1 k2 cap2 bl br J1 J2) (fun g => S1 g ∨ S2 g) i j := by
  intro w hw
  have en1 := m1.enter
  have en2 := m2.enter
  have HL := Lib.hid (two_left m1 m2 hd h11 h12 hij hj hw (Chg.refl _ w))
  have HR := Lib.hid (fun wr h hc => two_right m1 m2 hd h21 h22 (w0 := w) (w := wr) hij hj h hc)
  have c1 := cell_of_one hw.1
  clear m1 m2 hd h11 h12 h21 h22 hw
  cases hp : p i j with
  | true =>
    rw [hp] at HL
    clear hp
    go_enter Tryz.func203, Tryz.ntmps203
    go_wp2_with (go_at_fn k1; refine HL.out.mono ?_; rintro e w1 ⟨rfl, hT1, hc1⟩)
    go_ret
    exact ⟨rfl, hT1, hc1⟩
  | false =>
    rw [hp] at HL
    clear hp
    go_enter Tryz.func203, Tryz.ntmps203
    go_wp2_with (first | (go_at_fn k1; refine HL.out.mono ?_; rintro e w1 ⟨rfl, hT1, hc1⟩; have c2 := cell_of_one hT1.2.1) | (go_at_fn k2; refine (HR.out _ hT1 hc1).mono ?_; rintro e w2 ⟨rfl, hT2, hc2⟩))
    go_ret
    exact ⟨by simp, hT2, hc2⟩
set_option maxHeartbeats 800000 in
theorem and_body (m1 : Mat N p k1 cap1 J1 S1) (m2 : Mat N q k2 cap2 J2 S2) (hd : ∀ g, S1 g → ¬ S2 g) (h11 : ¬ S1 bl) (h12 : ¬ S1 br) (h21 : ¬ S2 bl) (h22 : ¬ S2 br) (i j : Nat) (hij : i ≤ j) (hj : j ≤ N) :
    Ans 204 #[.pointer (some ⟨bl, 0, none⟩), .pointer (some ⟨br, 0, none⟩)] (p i j && q i j) (TwoV k1 cap1 k2 cap2 bl br J1 J2) (fun g => S1 g ∨ S2 g) i j := by
  intro w hw
  have en1 := m1.enter
  have en2 := m2.enter
  have HL := Lib.hid (two_left m1 m2 hd h11 h12 hij hj hw (Chg.refl _ w))
  have HR := Lib.hid (fun wr h hc => two_right m1 m2 hd h21 h22 (w0 := w) (w := wr) hij hj h hc)
  have c1 := cell_of_one hw.1
  clear m1 m2 hd h11 h12 h21 h22 hw
  cases hp : p i j with
  | false =>
    rw [hp] at HL
    clear hp
    go_enter Tryz.func204, Tryz.ntmps204
    go_wp2_with (go_at_fn k1; refine HL.out.mono ?_; rintro e w1 ⟨rfl, hT1, hc1⟩)
    go_ret
    exact ⟨rfl, hT1, hc1⟩
  | true =>
    rw [hp] at HL
    clear hp
    go_enter Tryz.func204, Tryz.ntmps204
    go_wp2_with (first | (go_at_fn k1; refine HL.out.mono ?_; rintro e w1 ⟨rfl, hT1, hc1⟩; have c2 := cell_of_one hT1.2.1) | (go_at_fn k2; refine (HR.out _ hT1 hc1).mono ?_; rintro e w2 ⟨rfl, hT2, hc2⟩))
    go_ret
    exact ⟨by simp, hT2, hc2⟩
set_option maxHeartbeats 800000 in
theorem not_body (m1 : Mat N p k1 cap1 J1 S1) (h11 : ¬ S1 bl) (i j : Nat) (hij : i ≤ j) (hj : j ≤ N) :
    Ans 206 #[.pointer (some ⟨bl, 0, none⟩)] (!p i j) (OneV k1 cap1 bl J1) S1 i j := by
  intro w hw
  have en1 := m1.enter
  have HL := Lib.hid ((m1.call i j hij hj w hw.2).mono fun _ _ ⟨he, hJ, hch⟩ => (⟨he, ⟨hch.was hw.1 h11, hJ⟩, hch⟩ : _ ∧ OneV k1 cap1 bl J1 _ ∧ _))
  have c1 := cell_of_one hw.1
  clear m1 h11 hw
  go_enter Tryz.func206, Tryz.ntmps206
  go_wp2_with (go_at_fn k1; refine HL.out.mono ?_; rintro e w1 ⟨rfl, hT1, hc1⟩)
  go_ret
  exact ⟨rfl, hT1, hc1⟩
end
end Go.Proofs.YtppliiingoonlaaGreatDoor
namespace Go.Proofs.YtppliiingoonlaaGreatDoor
open Go.RowKit
theorem Ans.more {k : Nat} {cap : Array Value} {b : Bool} {J : World → Prop} {S S' : Nat → Prop} {i j : Nat} (h : Ans k cap b J S i j) (hS : ∀ g, S g → S' g) : Ans k cap b J S' i j :=
  fun w hw => (h w hw).mono fun _ _ ⟨he, hJ, hc⟩ => ⟨he, hJ, hc.more hS⟩
/-- What lies apart stays. -/
theorem Ans.with {k : Nat} {cap : Array Value} {b : Bool} {J R : World → Prop} {S S' : Nat → Prop} {i j : Nat} (h : Ans k cap b J S i j) (hR : ∀ w w', R w → Chg S w w' → R w') (hS : ∀ g, S g → S' g) : Ans k cap b (fun w => J w ∧ R w) S' i j :=
  fun w hw => (h w hw.1).mono fun _ _ ⟨he, hJ, hc⟩ => ⟨he, ⟨hJ, hR _ _ hw.2 hc⟩, hc.more hS⟩
theorem Rem.chg {N : Nat} {M : Mt} {fm : Value} {B : RemB} {S : Nat → Prop} {w w' : World} (h : Rem N M fm B w) (hc : Chg S w w') (hd : ∀ g, B.All g → ¬ S g) : Rem N M fm B w' :=
  h.same fun g hg => hc.block g (h.lt hg) (hd g hg)

theorem enters_rem : ∀ args w, (callFunc 241 args).run Tryz.prog w = .ok (.enter 241 args) w := enters_of Tryz.func241 (by kernel_rfl) rfl

/-- A closure that remembers, whole. -/
theorem rem_mat {N : Nat} {M : Mt} {fm : Value} {B : RemB} {J : World → Prop} {SJ : Nat → Prop} (hJ : Keeps J SJ) (hJh : Has J SJ)
    (h : ∀ i j, i ≤ j → j ≤ N → Ans 241 (remCap B) (M i j) (fun w => J w ∧ Rem N M fm B w) (fun g => SJ g ∨ B.All g) i j) :
    Mat N M 241 (remCap B) (fun w => J w ∧ Rem N M fm B w) (fun g => SJ g ∨ B.All g) :=
  ⟨enters_rem, fun w w' hw hs => ⟨hJ w w' hw.1 fun g hg => hs g (.inl hg), hw.2.same fun g hg => hs g (.inr hg)⟩, fun w hw g hg => hg.elim (hJh w hw.1 g) fun h => hw.2.lt h, h⟩

section
variable {N : Nat} {p q : Mt} {k1 k2 : Nat} {cap1 cap2 : Array Value} {J1 J2 : World → Prop} {S1 S2 : Nat → Prop} {bl br : Nat}
theorem two_keeps (m1 : Mat N p k1 cap1 J1 S1) (m2 : Mat N q k2 cap2 J2 S2) : Keeps (TwoV k1 cap1 k2 cap2 bl br J1 J2) (fun g => g = bl ∨ g = br ∨ S1 g ∨ S2 g) :=
  fun w w' hw hs => ⟨(hs _ (.inl rfl)).trans hw.1, (hs _ (.inr (.inl rfl))).trans hw.2.1, m1.keeps w w' hw.2.2.1 fun g hg => hs g (.inr (.inr (.inl hg))), m2.keeps w w' hw.2.2.2 fun g hg => hs g (.inr (.inr (.inr hg)))⟩
theorem two_has (m1 : Mat N p k1 cap1 J1 S1) (m2 : Mat N q k2 cap2 J2 S2) : Has (TwoV k1 cap1 k2 cap2 bl br J1 J2) (fun g => g = bl ∨ g = br ∨ S1 g ∨ S2 g) := fun w hw g hg => by
  rcases hg with rfl | rfl | h | h
  · exact lt_of_block hw.1
  · exact lt_of_block hw.2.1
  · exact m1.has w hw.2.2.1 g h
  · exact m2.has w hw.2.2.2 g h
theorem two_mat {M : Mt} {k : Nat} {cap : Array Value} (m1 : Mat N p k1 cap1 J1 S1) (m2 : Mat N q k2 cap2 J2 S2) (hen : ∀ args w, (callFunc k args).run Tryz.prog w = .ok (.enter k args) w)
    (h : ∀ i j, i ≤ j → j ≤ N → Ans k cap (M i j) (TwoV k1 cap1 k2 cap2 bl br J1 J2) (fun g => S1 g ∨ S2 g) i j) :
    Mat N M k cap (TwoV k1 cap1 k2 cap2 bl br J1 J2) (fun g => g = bl ∨ g = br ∨ S1 g ∨ S2 g) :=
  ⟨hen, two_keeps m1 m2, two_has m1 m2, fun i j hij hj => (h i j hij hj).more fun _ h => .inr (.inr h)⟩
theorem one_mat {M : Mt} {k : Nat} {cap : Array Value} (m1 : Mat N p k1 cap1 J1 S1) (hen : ∀ args w, (callFunc k args).run Tryz.prog w = .ok (.enter k args) w)
    (h : ∀ i j, i ≤ j → j ≤ N → Ans k cap (M i j) (OneV k1 cap1 bl J1) S1 i j) : Mat N M k cap (OneV k1 cap1 bl J1) (fun g => g = bl ∨ S1 g) :=
  ⟨hen, fun w w' hw hs => ⟨(hs _ (.inl rfl)).trans hw.1, m1.keeps w w' hw.2 fun g hg => hs g (.inr hg)⟩, fun w hw g hg => hg.elim (fun e => e ▸ lt_of_block hw.1) (m1.has w hw.2 g), fun i j hij hj => (h i j hij hj).more fun _ h => .inr h⟩

theorem enters_cat : ∀ args w, (callFunc 234 args).run Tryz.prog w = .ok (.enter 234 args) w := enters_of Tryz.func234 (by kernel_rfl) rfl
theorem enters_star : ∀ args w, (callFunc 235 args).run Tryz.prog w = .ok (.enter 235 args) w := enters_of Tryz.func235 (by kernel_rfl) rfl

def ptr2 (bl br : Nat) : Array Value := #[.pointer (some ⟨bl, 0, none⟩), .pointer (some ⟨br, 0, none⟩)]
theorem cat_mat {B : RemB} (m1 : Mat N p k1 cap1 J1 S1) (m2 : Mat N q k2 cap2 J2 S2) (hd : ∀ g, S1 g → ¬ S2 g) (h11 : ¬ S1 bl) (h12 : ¬ S1 br) (h21 : ¬ S2 bl) (h22 : ¬ S2 br) (hN : N ≤ 400)
    (ha : B.Apart) (hB : ∀ g, B.All g → ¬ (g = bl ∨ g = br ∨ S1 g ∨ S2 g)) :
    Mat N (catM p q) 241 (remCap B) (fun w => TwoV k1 cap1 k2 cap2 bl br J1 J2 w ∧ Rem N (catM p q) (.func (.func 234) #[] (ptr2 bl br)) B w) (fun g => (g = bl ∨ g = br ∨ S1 g ∨ S2 g) ∨ B.All g) := by
  refine rem_mat (two_keeps m1 m2) (two_has m1 m2) fun i j hij hj => ?_
  refine rem_body N (catM p q) 234 (ptr2 bl br) B _ _ _ hN ha (.inr (.inr (.inr (.inr (.inr (.inl rfl)))))) (.inr (.inr (.inr (.inr (.inr (.inr rfl)))))) (two_keeps m1 m2) (two_has m1 m2)
    (hB _ (.inr (.inr (.inr (.inr (.inl rfl)))))) (hB _ (.inr (.inr (.inr (.inr (.inr rfl)))))) enters_cat i j hij hj ?_
  exact (cat_body m1 m2 hd h11 h12 h21 h22 hN i j hij hj).with (fun w w' hR hc => hR.chg hc fun g hg h => hB g hg (.inr (.inr h))) fun _ h => .inl (.inr (.inr h))

theorem star_mat {B : RemB} (m1 : Mat N p k1 cap1 J1 S1) (h11 : ¬ S1 bl) (h12 : ¬ S1 br) (hN : N ≤ 400) (ha : B.Apart) (hB : ∀ g, B.All g → ¬ (g = bl ∨ g = br ∨ S1 g)) :
    Mat N (starM p) 241 (remCap B) (fun w => StJ k1 cap1 241 (remCap B) bl br J1 w ∧ Rem N (starM p) (.func (.func 235) #[] (ptr2 bl br)) B w) (fun g => (g = bl ∨ g = br ∨ S1 g) ∨ B.All g) := by
  have hk : Keeps (StJ k1 cap1 241 (remCap B) bl br J1) (fun g => g = bl ∨ g = br ∨ S1 g) := fun w w' hw hs => ⟨(hs _ (.inl rfl)).trans hw.1, (hs _ (.inr (.inl rfl))).trans hw.2.1, m1.keeps w w' hw.2.2 fun g hg => hs g (.inr (.inr hg))⟩
  have hh : Has (StJ k1 cap1 241 (remCap B) bl br J1) (fun g => g = bl ∨ g = br ∨ S1 g) := fun w hw g hg => by
    rcases hg with rfl | rfl | h
    · exact lt_of_block hw.1
    · exact lt_of_block hw.2.1
    · exact m1.has w hw.2.2 g h
  refine rem_mat hk hh ?_
  suffices H : ∀ d i j, j - i ≤ d → i ≤ j → j ≤ N → Ans 241 (remCap B) (starM p i j) (fun w => StJ k1 cap1 241 (remCap B) bl br J1 w ∧ Rem N (starM p) (.func (.func 235) #[] (ptr2 bl br)) B w) (fun g => (g = bl ∨ g = br ∨ S1 g) ∨ B.All g) i j from
    fun i j hij hj => H _ i j (Nat.le_refl _) hij hj
  intro d
  induction d with
  | zero =>
    intro i j hd hij hj
    refine rem_body N (starM p) 235 (ptr2 bl br) B _ _ _ hN ha (.inr (.inr (.inr (.inr (.inr (.inl rfl)))))) (.inr (.inr (.inr (.inr (.inr (.inr rfl)))))) hk hh
      (hB _ (.inr (.inr (.inr (.inr (.inl rfl)))))) (hB _ (.inr (.inr (.inr (.inr (.inr rfl)))))) enters_star i j hij hj ?_
    exact star_body m1 (fun _ h => .inl (.inr (.inr h))) h11 h12 (fun w w' hR hc => hR.chg hc fun g hg h => hB g hg (.inr (.inr h))) enters_rem hN i j hij hj fun m h1 h2 => by omega
  | succ d ih =>
    intro i j hd hij hj
    refine rem_body N (starM p) 235 (ptr2 bl br) B _ _ _ hN ha (.inr (.inr (.inr (.inr (.inr (.inl rfl)))))) (.inr (.inr (.inr (.inr (.inr (.inr rfl)))))) hk hh
      (hB _ (.inr (.inr (.inr (.inr (.inl rfl)))))) (hB _ (.inr (.inr (.inr (.inr (.inr rfl)))))) enters_star i j hij hj ?_
    exact star_body m1 (fun _ h => .inl (.inr (.inr h))) h11 h12 (fun w w' hR hc => hR.chg hc fun g hg h => hB g hg (.inr (.inr h))) enters_rem hN i j hij hj fun m h1 h2 => ih m j (by omega) h2 hj
end
end Go.Proofs.YtppliiingoonlaaGreatDoor
namespace Go.Proofs.YtppliiingoonlaaGreatDoor
open Go.RowKit
/-- A closure that answers M, over old blocks of T and new ones. -/
def MatFrom (N : Nat) (M : Mt) (T : Nat → Prop) (w : World) (e : Ending) (w' : World) : Prop :=
  ∃ (k : Nat) (cap : Array Value) (J : World → Prop) (S : Nat → Prop), e = .returned (.func (.func k) #[] cap) ∧ Mat N M k cap J S ∧ J w' ∧ (∀ g, S g → T g ∨ w.heap.size ≤ g) ∧ Below w.heap.size w w'
theorem one_new (w : World) (v : Value) (t : TypeId) : (w.alloc (.cells #[v] t)).heap[w.heap.size]? = some (.cells #[v] t (0, 0)) := by
  show (w.heap.push _)[w.heap.size]? = _
  simp
theorem Mat.under {N : Nat} {M : Mt} {k : Nat} {cap : Array Value} {J : World → Prop} {S : Nat → Prop} (m : Mat N M k cap J S) {w w' : World} (h : J w) (hb : Below w.heap.size w w') : J w' := m.keeps w w' h fun g hg => hb.block g (m.has w h g hg)

section
variable {N : Nat} {p q : Mt} {k1 k2 : Nat} {cap1 cap2 : Array Value} {J1 J2 : World → Prop} {S1 S2 : Nat → Prop}
set_option maxRecDepth 100000 in
theorem catMatcher_any (m1 : Mat N p k1 cap1 J1 S1) (m2 : Mat N q k2 cap2 J2 S2) (hd : ∀ g, S1 g → ¬ S2 g) (w : World) (h1 : J1 w) (h2 : J2 w) (hN : N ≤ 400) :
    Calls Tryz.prog 202 #[.func (.func k1) #[] cap1, .func (.func k2) #[] cap2, .int .i64 (N : Int)] w (MatFrom N (catM p q) (fun g => S1 g ∨ S2 g) w) := by
  obtain ⟨W, hW⟩ : ∃ W, W = (w.alloc (.cells #[.func (.func k1) #[] cap1] 180)).alloc (.cells #[.func (.func k2) #[] cap2] 180) := ⟨_, rfl⟩
  have hz : W.heap.size = w.heap.size + 2 := by rw [hW]; simp
  have hbW : Below w.heap.size w W := by rw [hW]; exact ((Below.refl _ _).alloc (Nat.le_refl _) _).alloc (by simp) _
  have hbl : W.heap[w.heap.size]? = some (.cells #[.func (.func k1) #[] cap1] 180 (0, 0)) := by
    rw [hW, Below.heap_alloc _ _ _ (by simp)]
    exact one_new _ _ _
  have hbr : W.heap[w.heap.size + 1]? = some (.cells #[.func (.func k2) #[] cap2] 180 (0, 0)) := by
    rw [hW]
    have := one_new (w.alloc (.cells #[.func (.func k1) #[] cap1] 180)) (.func (.func k2) #[] cap2) 180
    simpa using this
  have l1 : ∀ g, S1 g → g < w.heap.size := m1.has w h1
  have l2 : ∀ g, S2 g → g < w.heap.size := m2.has w h2
  have HR := Lib.hid ((remembered_any N (catM p q) 234 (ptr2 w.heap.size (w.heap.size + 1)) W hN).mono (fun e w' ⟨B, he, ha, hB, hR, hb⟩ => (⟨remCap B, _, _, he,
    cat_mat (bl := w.heap.size) (br := w.heap.size + 1) m1 m2 hd (fun h => Nat.lt_irrefl _ (l1 _ h)) (fun h => by have := l1 _ h; omega) (fun h => Nat.lt_irrefl _ (l2 _ h)) (fun h => by have := l2 _ h; omega) hN ha (fun g hg h => by
      have hg1 := hB g hg
      rcases h with h | h | h | h
      · omega
      · omega
      · have := l1 _ h; omega
      · have := l2 _ h; omega),
    ⟨⟨(hb.block _ (by omega)).trans hbl, (hb.block _ (by omega)).trans hbr, m1.under h1 (hbW.trans (hb.mono hbW.size)), m2.under h2 (hbW.trans (hb.mono hbW.size))⟩, hR⟩,
    fun g hg => (by
      rcases hg with (h | h | h | h) | h
      · exact .inr (by omega)
      · exact .inr (by omega)
      · exact .inl (.inl h)
      · exact .inl (.inr h)
      · have := hB g h
        exact .inr (by omega)), hbW.trans (hb.mono hbW.size)⟩ : ∃ (cap : Array Value) (J : World → Prop) (S : Nat → Prop), e = Ending.returned (.func (.func 241) #[] cap) ∧ Mat N (catM p q) 241 cap J S ∧ J w' ∧ (∀ g, S g → (S1 g ∨ S2 g) ∨ w.heap.size ≤ g) ∧ Below w.heap.size w w')))
  rw [hW] at HR
  unfold ptr2 at HR
  clear hW hz hbW hbl hbr l1 l2 m1 m2 hd h1 h2 hN
  go_enter Tryz.func202, Tryz.ntmps202
  go_wp2_with fail
  refine HR.out.mono ?_
  rintro e w' ⟨cap, J, S, rfl, hm, hJ, hS, hb⟩
  have HE := Lib.hid (And.intro hm (And.intro hJ (And.intro hS hb)))
  clear hm hJ hS hb
  go_wp2_with fail
  go_ret
  exact ⟨_, cap, J, S, rfl, HE.out.1, HE.out.2.1, HE.out.2.2.1, HE.out.2.2.2⟩

set_option maxRecDepth 100000 in
theorem starMatcher_any (m1 : Mat N p k1 cap1 J1 S1) (w : World) (h1 : J1 w) (hN : N ≤ 400) :
    Calls Tryz.prog 205 #[.func (.func k1) #[] cap1, .int .i64 (N : Int)] w (MatFrom N (starM p) S1 w) := by
  obtain ⟨W, hW⟩ : ∃ W, W = (w.alloc (.cells #[.func (.func k1) #[] cap1] 180)).alloc (.cells #[.nilFunc] 180) := ⟨_, rfl⟩
  have hz : W.heap.size = w.heap.size + 2 := by rw [hW]; simp
  have hbW : Below w.heap.size w W := by rw [hW]; exact ((Below.refl _ _).alloc (Nat.le_refl _) _).alloc (by simp) _
  have hbl : W.heap[w.heap.size]? = some (.cells #[.func (.func k1) #[] cap1] 180 (0, 0)) := by
    rw [hW, Below.heap_alloc _ _ _ (by simp)]
    exact one_new _ _ _
  have hbr : W.heap[w.heap.size + 1]? = some (.cells #[.nilFunc] 180 (0, 0)) := by
    rw [hW]
    have := one_new (w.alloc (.cells #[.func (.func k1) #[] cap1] 180)) .nilFunc 180
    simpa using this
  have l1 : ∀ g, S1 g → g < w.heap.size := m1.has w h1
  have HR := Lib.hid ((remembered_any N (starM p) 235 (ptr2 w.heap.size (w.heap.size + 1)) W hN).mono (fun e w' ⟨B, he, ha, hB, hR, hb⟩ => (⟨remCap B, _, _, he, (hb.block _ (by omega)).trans hbr,
    star_mat (bl := w.heap.size) (br := w.heap.size + 1) m1 (fun h => Nat.lt_irrefl _ (l1 _ h)) (fun h => by have := l1 _ h; omega) hN ha (fun g hg h => by
      have hg1 := hB g hg
      rcases h with h | h | h
      · omega
      · omega
      · have := l1 _ h; omega),
    ⟨⟨(Below.heap_setCell _ _ _ _ (by simp)).trans ((hb.block _ (by omega)).trans hbl), one_setCell ((hb.block _ (by omega)).trans hbr), m1.under h1 ((hbW.trans (hb.mono hbW.size)).setCell (by simp) _)⟩, hR.same fun g hg => Below.heap_setCell _ _ _ _ (fun e => by have := hB g hg; simp at e; omega)⟩,
    fun g hg => (by
      rcases hg with (h | h | h) | h
      · exact .inr (by omega)
      · exact .inr (by omega)
      · exact .inl h
      · have := hB g h
        exact .inr (by omega)), (hbW.trans (hb.mono hbW.size)).setCell (by simp) _⟩ : ∃ (cap : Array Value) (J : World → Prop) (S : Nat → Prop), e = Ending.returned (.func (.func 241) #[] cap) ∧ w'.heap[w.heap.size + 1]? = some (Obj.cells #[.nilFunc] 180 (0, 0)) ∧ Mat N (starM p) 241 cap J S ∧ J (w'.setCell ⟨w.heap.size + 1, 0, none⟩ (.func (.func 241) #[] cap)) ∧ (∀ g, S g → S1 g ∨ w.heap.size ≤ g) ∧ Below w.heap.size w (w'.setCell ⟨w.heap.size + 1, 0, none⟩ (.func (.func 241) #[] cap)))))
  rw [hW] at HR
  unfold ptr2 at HR
  clear hW hz hbW hbl hbr l1 m1 h1 hN
  go_enter Tryz.func205, Tryz.ntmps205
  go_wp2_with fail
  refine HR.out.mono ?_
  rintro e w' ⟨cap, J, S, rfl, hbr, hm, hJ, hS, hb⟩
  have c1 := cell_of_one hbr
  have f1 := free_of_one hbr
  have HE := Lib.hid (And.intro hm (And.intro hJ (And.intro hS hb)))
  clear hm hJ hS hb hbr
  go_wp2_with fail
  go_ret
  exact ⟨_, cap, J, S, rfl, HE.out.1, HE.out.2.1, HE.out.2.2.1, HE.out.2.2.2⟩
end
end Go.Proofs.YtppliiingoonlaaGreatDoor

/-
  What the model's l4Star leaves in a repetition's table, where l4Is answers at the argument.
  What the model's l4Find answers, where l4Is answers at the arguments.
  What the model's l4Is answers, at every node.
-/
namespace Go.Proofs.YtppliiingoonlaaGreatDoor
open Go.RowKit
theorem l1Bit_any (b : Bool) (w : World) : Calls Tryz.prog 153 #[.bool b] w fun e w' => e = .returned (.int .i64 (if b then 1 else 0)) ∧ w = w' := by
  cases b with
  | true =>
    go_enter Tryz.func153, Tryz.ntmps153
    go_wp2
    go_ret
    exact ⟨rfl, rfl⟩
  | false =>
    go_enter Tryz.func153, Tryz.ntmps153
    go_wp2
    go_ret
    exact ⟨rfl, rfl⟩

section
variable {base zb : Nat} {s : ByteArray} {N : Nat} {D : List Ent} {vN vA vM : Value} {xsN xsA xsM : List Value}
/-- What the rounds up to place k leave. -/
structure StR (base zb : Nat) (s : ByteArray) (N : Nat) (D : List Ent) (vN vA vM : Value) (xsN xsA xsM : List Value) (n i k : Nat) (p : Mt) (mem : Mem) (w : World) (memr : Mem) (wr : World) : Prop where
  z : Zs wr base zb s N D memr vN vA vM xsN xsA xsM
  ok : OkM N D memr n
  past : ∀ n', n < n' → memr n' = mem n'
  rows : ∀ i', i' ≠ i → memr n i' = mem n i'
  low : ∀ k', k' < i → memr n i k' = mem n i k'
  done : ∀ k', i ≤ k' → k' < k → memr n i k' = codeM (starM p i k')
  below : Below base w wr
theorem StR.set {n i k : Nat} {p : Mt} {mem : Mem} {w : World} {memr : Mem} {wr : World} (h : StR base zb s N D vN vA vM xsN xsA xsM n i k p mem w memr wr) {e : Ent} (he : D[n]? = some e) (hi : i ≤ N) (hik : i ≤ k) (v : Int) :
    StR base zb s N D vN vA vM xsN xsA xsM n i k p mem w (memr.put n i k v) (wr.setCell ⟨e.r i, k, none⟩ (.int .i64 v)) where
  z := h.z.put he hi v
  ok := h.ok.put (Nat.le_refl _)
  past := fun n' hn => by
    funext a b
    rw [Mem.put_ne _ _ (fun h => by omega)]
    exact congrFun (congrFun (h.past n' hn) a) b
  rows := fun i' hi' => by
    funext b
    rw [Mem.put_ne _ _ (fun h => hi' h.2.1)]
    exact congrFun (h.rows i' hi') b
  low := fun k' hk => by
    rw [Mem.put_ne _ _ (fun h => by omega)]
    exact h.low k' hk
  done := fun k' h1 h2 => by
    rw [Mem.put_ne _ _ (fun h => by omega)]
    exact h.done k' h1 h2
  below := h.below.setCell (h.z.ins _ ⟨n, e, he, .inr (.inr ⟨i, hi, rfl⟩)⟩).1 _
theorem StR.next {n i k : Nat} {p : Mt} {mem : Mem} {w : World} {memr : Mem} {wr : World} (h : StR base zb s N D vN vA vM xsN xsA xsM n i k p mem w memr wr) (hk : memr n i k = codeM (starM p i k)) : StR base zb s N D vN vA vM xsN xsA xsM n i (k + 1) p mem w memr wr :=
  ⟨h.z, h.ok, h.past, h.rows, h.low, fun k' h1 h2 => by
    by_cases e : k' = k
    · rw [e, hk]
    · exact h.done k' h1 (by omega), h.below⟩
theorem StR.kid {n i k : Nat} {p : Mt} {mem : Mem} {w : World} {memr mem1 : Mem} {wr w1 : World} (h : StR base zb s N D vN vA vM xsN xsA xsM n i k p mem w memr wr) (hz : Zs w1 base zb s N D mem1 vN vA vM xsN xsA xsM) (ho : OkM N D mem1 n) (hs : ∀ n', n ≤ n' → mem1 n' = memr n') (hb : Below base wr w1) :
    StR base zb s N D vN vA vM xsN xsA xsM n i k p mem w mem1 w1 :=
  ⟨hz, ho, fun n' hn => (hs n' (Nat.le_of_lt hn)).trans (h.past n' hn), fun i' hi => (congrFun (hs n (Nat.le_refl _)) i').trans (h.rows i' hi), fun k' hk => (congrFun (congrFun (hs n (Nat.le_refl _)) i) k').trans (h.low k' hk), fun k' h1 h2 => (congrFun (congrFun (hs n (Nat.le_refl _)) i) k').trans (h.done k' h1 h2), h.below.trans hb⟩
theorem StR.drew {n i k : Nat} {p : Mt} {mem : Mem} {w : World} {memr : Mem} {wr : World} (h : StR base zb s N D vN vA vM xsN xsA xsM n i k p mem w memr wr) : StR base zb s N D vN vA vM xsN xsA xsM n i k p mem w memr wr.drew :=
  ⟨h.z.same (Nat.le_refl _) (fun _ _ _ => rfl), h.ok, h.past, h.rows, h.low, h.done, h.below.drew⟩

set_option maxRecDepth 100000 in
set_option maxHeartbeats 1600000 in
theorem star_any {n x i : Nat} {e : Ent} {p : Mt} (hN : N ≤ 400) (hs : s.size = N) (he : D[n]? = some e) (har : e.ar = [x]) (hx : KidC base zb s N D vN vA vM xsN xsA xsM n x p) (hi : i ≤ N) (w : World) (mem : Mem)
    (hz : Zs w base zb s N D mem vN vA vM xsN xsA xsM) (ho : OkM N D mem n) :
    Calls Tryz.prog 221 #[.pointer (some ⟨zb, 0, none⟩), .int .i64 (n : Int), .int .i64 (i : Int)] w fun e' w' => e' = .returned (.tuple #[]) ∧ ∃ mem', StR base zb s N D vN vA vM xsN xsA xsM n i (N + 1) p mem w mem' w' := by
  have hn := (List.getElem?_eq_some_iff.1 he).1
  have HT := Lib.hid (fun k (hk : k ≤ N) w1 mem1 (h : Zs w1 base zb s N D mem1 vN vA vM xsN xsA xsM) => h.table he hi hk)
  have HC := Lib.hid (fun k (hk : k ≤ N) w1 mem1 (h : Zs w1 base zb s N D mem1 vN vA vM xsN xsA xsM) => h.num he hi hk)
  have HA := Lib.hid (fun w1 mem1 (h : Zs w1 base zb s N D mem1 vN vA vM xsN xsA xsM) => (h.arg he).elim fun b h => h.elim fun c h => h.elim fun c' h => (⟨b, c, c', h.1, by rw [har] at h; exact h.2.1, h.2.2 0 x (by rw [har]; rfl)⟩ : ∃ b c c', w1.cell? ⟨zb, 2, none⟩ = some (.slice (some ⟨b, 0, none⟩) D.length c) ∧ w1.cell? ⟨b, n, none⟩ = some (.slice (some ⟨e.g, 0, none⟩) 1 c') ∧ w1.cell? ⟨e.g, 0, none⟩ = some (.int .i64 (x : Int))))
  have HS := Lib.hid (fun w1 mem1 (h : Zs w1 base zb s N D mem1 vN vA vM xsN xsA xsM) => (h.node he).elim fun b h => h.elim fun c h => h.1)
  have HX := Lib.hid (fun m k (h1 : m ≤ k) (h2 : k ≤ N) w1 mem1 hz1 ho1 => hx m k h1 h2 w1 mem1 hz1 ho1)
  have HSET := Lib.hid (fun k mem1 w1 (h : StR base zb s N D vN vA vM xsN xsA xsM n i k p mem w mem1 w1) (hik : i ≤ k) v => h.set he hi hik v)
  have H0 : Hid (StR base zb s N D vN vA vM xsN xsA xsM n i i p mem w mem w) := Lib.hid ⟨hz, ho, fun _ _ => rfl, fun _ _ => rfl, fun _ _ => rfl, fun k' h1 h2 => by omega, Below.refl _ _⟩
  obtain ⟨r, hr⟩ : ∃ r, r = e.r i := ⟨_, rfl⟩
  rw [← hr] at HT HSET HC
  obtain ⟨q, hq⟩ : ∃ q, q = N + 1 := ⟨_, rfl⟩
  obtain ⟨d, hd⟩ : ∃ d, d = D.length := ⟨_, rfl⟩
  rw [← hq] at HT
  rw [← hd] at HT HA hn
  have bi0 : (0 : Int) ≤ (i : Int) := by omega
  have bi : (i : Int) < (q : Int) := by omega
  have bn0 : (0 : Int) ≤ (n : Int) := by omega
  have bn : (n : Int) < (d : Int) := by omega
  have HQ := Lib.hid hq
  clear hz ho hx he har hr hd hq
  go_enter Tryz.func221, Tryz.ntmps221
  go_wp2_with fail
  go_loopw [6] (fun v wr => ∃ (k : Nat) (memr : Mem), v = .int .i64 k ∧ i ≤ k ∧ k ≤ N + 1 ∧ StR base zb s N D vN vA vM xsN xsA xsM n i k p mem w memr wr) (fun v _ => N + 1 - (intOf v).toNat)
  case atStart => exact ⟨i, mem, rfl, Nat.le_refl _, by omega, H0.out⟩
  case round =>
    obtain ⟨k, memr, rfl, hik, hkN, hst⟩ := hrel
    have zs := HS.out _ _ hst.z
    have HST := Lib.hid hst
    by_cases hk : k ≤ N
    · obtain ⟨b, c, c', t1, t2, t3, t4, t5, t6, t7, t8⟩ := HT.out k hk _ _ hst.z
      have hks : k ≤ s.size := by omega
      have bk0 : (0 : Int) ≤ (k : Int) := by omega
      have bk : (k : Int) < (q : Int) := by have := HQ.out; omega
      obtain ⟨z, hz0, hz1, hzk⟩ : ∃ z : Int, 0 ≤ z ∧ z ≤ 1 ∧ z = if ((k : Int) == (i : Int)) then 1 else 0 := ⟨_, by split <;> omega, by split <;> omega, rfl⟩
      have HB := Lib.hid (fun w => l1Bit_any ((k : Int) == (i : Int)) w)
      rw [← hzk] at HB
      have HZ : Hid ((2 - z = 1 ∧ starM p i k = true) ∨ (2 - z = 2 ∧ i ≠ k)) := Lib.hid (by
        by_cases hki : k = i
        · subst hki
          exact .inl ⟨by rw [hzk]; simp, starM_self p k⟩
        · exact .inr ⟨by rw [hzk]; simp; omega, fun e => hki e.symm⟩)
      have HSV := Lib.hid (HSET.out k memr wr HST.out hik (2 - z))
      clear hst hzk
      go_wp2_with fail
      have hwz : IntKind.i64.wrap (2 - z) = 2 - z := by rw [IntKind.wrap_i64]; omega
      have HK := Lib.hid (fun v => (⟨set_cell (k := k) (v := v) t1 t6, set_cell (k := k) (v := v) t2 t7, set_cell (k := k) (v := v) t3 t8⟩ : _ ∧ _ ∧ _))
      go_region_held3 (fun w' => w'.cell? ⟨zb, 3, none⟩ = some (.slice (some ⟨b, 0, none⟩) d c) ∧ w'.cell? ⟨b, n, none⟩ = some (.slice (some ⟨e.t, 0, none⟩) q c') ∧ w'.cell? ⟨e.t, i, none⟩ = some (.slice (some ⟨r, 0, none⟩) q q)) (first | exact ⟨t1, t2, t3⟩ | exact HK.out _ | go_keep)
        (first | (go_at_call 153; (with_reducible refine (HB.out _).mono ?_); rintro e w' ⟨rfl, rfl⟩))
      obtain ⟨W3, hW3⟩ : ∃ W3, W3 = (wr.setCell ⟨r, k, none⟩ (.int .i64 (2 - z))).drew := ⟨_, rfl⟩
      have HR3 : Hid (StR base zb s N D vN vA vM xsN xsA xsM n i k p mem w (memr.put n i k (2 - z)) W3) := Lib.hid (hW3 ▸ HSV.out.drew)
      rw [← hW3]
      obtain ⟨mem3, hmem3⟩ : ∃ mem3, mem3 = memr.put n i k (2 - z) := ⟨_, rfl⟩
      have HV3 : Hid (mem3 n i k = 2 - z) := Lib.hid (by rw [hmem3]; exact Mem.put_at _ _ _ _ _)
      rw [← hmem3] at HR3
      clear hW3 hmem3 HSV HK HST HB t1 t2 t3 t4 t5 t6 t7 t8 zs
      go_wp2_with fail
      go_loopw [7] (fun v w4 => ∃ (m : Nat) (memq : Mem), v = .int .i64 m ∧ i ≤ m ∧ m ≤ k ∧ StR base zb s N D vN vA vM xsN xsA xsM n i k p mem w memq w4 ∧ ((memq n i k = 2 ∧ i ≠ k ∧ ∀ m', i ≤ m' → m' < m → (starM p i m' && p m' k) = false) ∨ (memq n i k = 1 ∧ starM p i k = true))) (fun v _ => k - (intOf v).toNat)
      case atStart => exact ⟨i, mem3, rfl, Nat.le_refl _, hik, HR3.out, HZ.out.elim (fun h => .inr ⟨HV3.out.trans h.1, h.2⟩) (fun h => .inl ⟨HV3.out.trans h.1, h.2, fun m' h1 h2 => by omega⟩)⟩
      case round =>
        obtain ⟨m, memq, rfl, him, hmk, hst, hcase⟩ := hrel
        have bm0 : (0 : Int) ≤ (m : Int) := by omega
        have bm : (m : Int) < (q : Int) := by have := HQ.out; omega
        obtain ⟨b, c, c', t1, t2, t3, t4, t5, -, -, -⟩ := HT.out k hk _ _ hst.z
        have HST := Lib.hid hst
        rcases hcase with ⟨h2, hne, hno⟩ | ⟨h1, hy⟩
        · rw [h2] at t4
          have H2 := Lib.hid h2
          have HNE := Lib.hid hne
          have HNO := Lib.hid hno
          clear h2 hne hno
          by_cases hm : m < k
          · have sm := HC.out m (by omega) _ _ hst.z
            rw [hst.done m him hm] at sm
            clear hst
            cases hsm : starM p i m with
            | false =>
              have sm2 : wr.cell? ⟨r, m, none⟩ = some (.int .i64 2) := by rw [sm, hsm]; rfl
              have HS : Hid (∀ m', i ≤ m' → m' < m + 1 → (starM p i m' && p m' k) = false) := Lib.hid (fun m' h1 h2 => by
                by_cases e : m' = m
                · rw [e, hsm]; rfl
                · exact HNO.out m' h1 (by omega))
              clear sm hsm
              go_wp2_with fail
              go_roundw
              case rel => exact ⟨m + 1, memq, by go_num, by omega, by omega, HST.out, .inl ⟨H2.out, HNE.out, HS.out⟩⟩
              case measure => simp [intOf]; omega
            | true =>
              have sm2 : wr.cell? ⟨r, m, none⟩ = some (.int .i64 1) := by rw [sm, hsm]; rfl
              have HSM := Lib.hid hsm
              obtain ⟨a1, a2, a3, a4, a5, a6⟩ := HA.out _ _ HST.out.z
              have HX' := Lib.hid (HX.out m k hmk hk _ _ HST.out.z HST.out.ok)
              clear sm hsm
              cases hpm : p m k with
              | false =>
                have HS : Hid (∀ m', i ≤ m' → m' < m + 1 → (starM p i m' && p m' k) = false) := Lib.hid (fun m' h1 h2 => by
                  by_cases e : m' = m
                  · rw [e, hpm, Bool.and_false]
                  · exact HNO.out m' h1 (by omega))
                rw [hpm] at HX'
                clear hpm
                go_wp2_with (go_at_call 181; (with_reducible refine HX'.out.mono ?_); rintro e w1 ⟨mem1, rfl, hz1, ho1, hs1, hb1⟩)
                have HE1 := Lib.hid (And.intro (HST.out.kid hz1 ho1 hs1 hb1) (congrFun (congrFun (hs1 n (Nat.le_refl _)) i) k))
                clear hz1 ho1 hs1 hb1
                go_roundw
                case rel => exact ⟨m + 1, mem1, by go_num, by omega, by omega, HE1.out.1, .inl ⟨HE1.out.2.trans H2.out, HNE.out, HS.out⟩⟩
                case measure => simp [intOf]; omega
              | true =>
                have HY : Hid (starM p i k = true) := Lib.hid (starM_snoc hm HSM.out hpm)
                rw [hpm] at HX'
                clear hpm
                go_wp2_with (go_at_call 181; (with_reducible refine HX'.out.mono ?_); rintro e w1 ⟨mem1, rfl, hz1, ho1, hs1, hb1⟩; obtain ⟨b', c1', c2', s1, s2, s3, s4, s5, -, -, -⟩ := HT.out k hk _ _ hz1)
                have HE1 := Lib.hid (HSET.out k mem1 w1 (HST.out.kid hz1 ho1 hs1 hb1) hik 1)
                clear hz1 ho1 hs1 hb1 s1 s2 s3 s4 s5
                go_roundw
                case rel => exact ⟨m + 1, mem1.put n i k 1, by go_num, by omega, by omega, HE1.out, .inr ⟨Mem.put_at _ _ _ _ _, HY.out⟩⟩
                case measure => simp [intOf]; omega
          · clear hst
            have HY : Hid (starM p i k = false) := Lib.hid (starM_none HNE.out fun m' h1 h2 => HNO.out m' h1 (by omega))
            go_wp2_with fail
            go_roundw
            case rel => exact ⟨k + 1, memq, by go_num, by omega, by omega, HST.out.next (by rw [H2.out, HY.out]; rfl)⟩
            case measure => simp [intOf]; omega
        · rw [h1] at t4
          have H1 := Lib.hid h1
          have HY := Lib.hid hy
          clear h1 hy hst
          by_cases hm : m < k
          · go_wp2_with fail
            go_roundw
            case rel => exact ⟨k + 1, memq, by go_num, by omega, by omega, HST.out.next (by rw [H1.out, HY.out]; rfl)⟩
            case measure => simp [intOf]; omega
          · go_wp2_with fail
            go_roundw
            case rel => exact ⟨k + 1, memq, by go_num, by omega, by omega, HST.out.next (by rw [H1.out, HY.out]; rfl)⟩
            case measure => simp [intOf]; omega
    · have HE : Hid (StR base zb s N D vN vA vM xsN xsA xsM n i (N + 1) p mem w memr wr) := Lib.hid ((show k = N + 1 by omega) ▸ HST.out)
      clear hst
      go_wp2_with fail
      go_end0
      exact ⟨rfl, memr, HE.out⟩
end
end Go.Proofs.YtppliiingoonlaaGreatDoor
namespace Go.Proofs.YtppliiingoonlaaGreatDoor
open Go.RowKit
section
variable {base zb : Nat} {s : ByteArray} {N : Nat} {D : List Ent} {vN vA vM : Value} {xsN xsA xsM : List Value}
set_option maxRecDepth 100000 in
set_option maxHeartbeats 800000 in
theorem find_1 {n : Nat} {e : Ent} (he : D[n]? = some e) (hk : e.k = 1) (hm : ∀ i j, e.m i j = false) : FindC base zb s N D vN vA vM xsN xsA xsM n e := by
  intro i j hij hj w mem hz ho
  have hn := (List.getElem?_eq_some_iff.1 he).1
  obtain ⟨bN, cN, z0, z1, z2, z3⟩ := hz.node he
  obtain ⟨bA, cA, cA', y1, y2, y3⟩ := hz.arg he
  rw [hk] at z2
  have hm' := Lib.hid (hm i j)
  have HE := Lib.hid (And.intro hz ho)
  obtain ⟨al, hal⟩ : ∃ al, al = e.ar.length := ⟨_, rfl⟩
  rw [← hal] at y2
  clear hal
  clear y3 hz ho hk hm he z0 z3
  obtain ⟨d, hd⟩ : ∃ d, d = D.length := ⟨_, rfl⟩
  rw [← hd] at hn z1 y1
  clear hd
  go_enter Tryz.func222, Tryz.ntmps222
  go_wp2_with fail
  go_ret
  exact ⟨mem, congrArg (fun b => Ending.returned (.bool b)) hm'.out.symm, HE.out.1, HE.out.2, fun _ _ => rfl, Below.refl _ _⟩

set_option maxRecDepth 100000 in
set_option maxHeartbeats 800000 in
theorem find_2 {n : Nat} {e : Ent} (he : D[n]? = some e) (hk : e.k = 2) (hm : ∀ i j, e.m i j = decide (i = j)) : FindC base zb s N D vN vA vM xsN xsA xsM n e := by
  intro i j hij hj w mem hz ho
  have hn := (List.getElem?_eq_some_iff.1 he).1
  obtain ⟨bN, cN, z0, z1, z2, z3⟩ := hz.node he
  obtain ⟨bA, cA, cA', y1, y2, y3⟩ := hz.arg he
  rw [hk] at z2
  have hm' := Lib.hid ((hm i j).trans (show _ = ((i : Int) == (j : Int)) by by_cases h : i = j <;> simp [h] <;> omega))
  have HE := Lib.hid (And.intro hz ho)
  obtain ⟨al, hal⟩ : ∃ al, al = e.ar.length := ⟨_, rfl⟩
  rw [← hal] at y2
  clear hal
  clear y3 hz ho hk hm he z0 z3
  obtain ⟨d, hd⟩ : ∃ d, d = D.length := ⟨_, rfl⟩
  rw [← hd] at hn z1 y1
  clear hd
  go_enter Tryz.func222, Tryz.ntmps222
  go_wp2_with fail
  go_ret
  exact ⟨mem, congrArg (fun b => Ending.returned (.bool b)) hm'.out.symm, HE.out.1, HE.out.2, fun _ _ => rfl, Below.refl _ _⟩

set_option maxRecDepth 100000 in
set_option maxHeartbeats 800000 in
theorem find_4 {n : Nat} {e : Ent} (hN : N ≤ 400) (he : D[n]? = some e) (hk : e.k = 4) (hm : ∀ i j, e.m i j = decide (j = i + 1)) : FindC base zb s N D vN vA vM xsN xsA xsM n e := by
  intro i j hij hj w mem hz ho
  have hn := (List.getElem?_eq_some_iff.1 he).1
  obtain ⟨bN, cN, z0, z1, z2, z3⟩ := hz.node he
  obtain ⟨bA, cA, cA', y1, y2, y3⟩ := hz.arg he
  rw [hk] at z2
  have hm' := Lib.hid ((hm i j).trans (show _ = ((j : Int) == (i : Int) + 1) by by_cases h : j = i + 1 <;> simp [h] <;> omega))
  have HE := Lib.hid (And.intro hz ho)
  obtain ⟨al, hal⟩ : ∃ al, al = e.ar.length := ⟨_, rfl⟩
  rw [← hal] at y2
  clear hal
  clear y3 hz ho hk hm he z0 z3
  obtain ⟨d, hd⟩ : ∃ d, d = D.length := ⟨_, rfl⟩
  rw [← hd] at hn z1 y1
  clear hd
  go_enter Tryz.func222, Tryz.ntmps222
  go_wp2_with fail
  go_ret
  exact ⟨mem, congrArg (fun b => Ending.returned (.bool b)) hm'.out.symm, HE.out.1, HE.out.2, fun _ _ => rfl, Below.refl _ _⟩

set_option maxRecDepth 100000 in
set_option maxHeartbeats 800000 in
theorem find_3 {n : Nat} {e : Ent} (hs : s.size = N) (he : D[n]? = some e) (hk : e.k = 3) (hm : ∀ i j, e.m i j = decide (part s.data.toList i j = e.l.data.toList)) : FindC base zb s N D vN vA vM xsN xsA xsM n e := by
  intro i j hij hj w mem hz ho
  have hn := (List.getElem?_eq_some_iff.1 he).1
  obtain ⟨bN, cN, z0, z1, z2, z3⟩ := hz.node he
  obtain ⟨bA, cA, cA', y1, y2, y3⟩ := hz.arg he
  rw [hk] at z2
  have hm' := Lib.hid ((hm i j).trans (show _ = ((s.extract i j).toList == e.l.toList) by rw [part_eq, ByteArray.toList_eq]; by_cases h : part s.data.toList i j = e.l.data.toList <;> simp [h]))
  have HE := Lib.hid (And.intro hz ho)
  have hjs : j ≤ s.size := by omega
  obtain ⟨al, hal⟩ : ∃ al, al = e.ar.length := ⟨_, rfl⟩
  rw [← hal] at y2
  clear hal
  clear y3 hz ho hk hm he
  obtain ⟨d, hd⟩ : ∃ d, d = D.length := ⟨_, rfl⟩
  rw [← hd] at hn z1 y1
  clear hd
  go_enter Tryz.func222, Tryz.ntmps222
  go_wp2_with fail
  go_region_held3 (fun w' => w'.cell? ⟨zb, 0, none⟩ = some (.string s) ∧ w'.cell? ⟨zb, 1, none⟩ = some (.slice (some ⟨bN, 0, none⟩) d cN) ∧ w'.cell? ⟨bN, n * 3 + 1, none⟩ = some (.string e.l)) (first | exact ⟨z0, z1, z3⟩ | go_keep) (fail)
  go_wp2_with fail
  go_ret
  exact ⟨mem, congrArg (fun b => Ending.returned (.bool b)) hm'.out.symm, HE.out.1.same (Nat.le_refl _) (fun _ _ _ => rfl), HE.out.2, fun _ _ => rfl, (Below.refl _ _).drew⟩

set_option maxRecDepth 100000 in
set_option maxHeartbeats 800000 in
theorem find_6 {n : Nat} {e : Ent} {x y : Nat} {p q : Mt} (har : e.ar = [x, y]) (hx : KidC base zb s N D vN vA vM xsN xsA xsM n x p) (hy : KidC base zb s N D vN vA vM xsN xsA xsM n y q) (he : D[n]? = some e) (hk : e.k = 6) (hm : ∀ i j, e.m i j = (p i j || q i j)) : FindC base zb s N D vN vA vM xsN xsA xsM n e := by
  intro i j hij hj w mem hz ho
  have hn := (List.getElem?_eq_some_iff.1 he).1
  obtain ⟨bN, cN, z0, z1, z2, z3⟩ := hz.node he
  obtain ⟨bA, cA, cA', y1, y2, y3⟩ := hz.arg he
  rw [hk] at z2
  rw [har] at y2 y3
  have g0 := y3 0 x rfl
  have g1 := y3 1 y rfl
  have HX := Lib.hid (hx i j hij hj w mem hz ho)
  have HY := Lib.hid (fun w1 mem1 hz1 ho1 => hy i j hij hj w1 mem1 hz1 ho1)
  have HG := Lib.hid (fun w1 mem1 (hz1 : Zs w1 base zb s N D mem1 vN vA vM xsN xsA xsM) => (hz1.arg he).elim fun b h => h.elim fun c h => h.elim fun c' h => h.2.2 1 y (by rw [har]; rfl))
  have hm' := Lib.hid (hm i j)
  cases hp : p i j with
  | true =>
    have hr : Hid (e.m i j = true) := Lib.hid (hm'.out.trans (by rw [hp]; rfl))
    rw [hp] at HX
    clear y3 z0 z3 hz ho hk hm he hx hy hp
    obtain ⟨d, hd⟩ : ∃ d, d = D.length := ⟨_, rfl⟩
    rw [← hd] at hn z1 y1
    clear hd
    go_enter Tryz.func222, Tryz.ntmps222
    go_wp2_with (go_at_call 181; (with_reducible refine HX.out.mono ?_); rintro e w1 ⟨mem1, rfl, hz1, ho1, hs1, hb1⟩)
    go_ret
    exact ⟨mem1, congrArg (fun b => Ending.returned (.bool b)) hr.out.symm, hz1, ho1, hs1, hb1⟩
  | false =>
    have hr : Hid (e.m i j = q i j) := Lib.hid (hm'.out.trans (by rw [hp]; simp))
    rw [hp] at HX
    clear y3 z0 z3 hz ho hk hm he hx hy hp
    obtain ⟨d, hd⟩ : ∃ d, d = D.length := ⟨_, rfl⟩
    rw [← hd] at hn z1 y1
    clear hd
    go_enter Tryz.func222, Tryz.ntmps222
    go_wp2_with (first | (go_at_call 181; (with_reducible refine HX.out.mono ?_); rintro e w1 ⟨mem1, rfl, hz1, ho1, hs1, hb1⟩; have g1 := HG.out _ _ hz1) | (go_at_call 181; (with_reducible refine (HY.out _ _ hz1 ho1).mono ?_); rintro e w2 ⟨mem2, rfl, hz2, ho2, hs2, hb2⟩))
    go_ret
    exact ⟨mem2, congrArg (fun b => Ending.returned (.bool b)) hr.out.symm, hz2, ho2, fun n' h => (hs2 n' h).trans (hs1 n' h), hb1.trans hb2⟩

set_option maxRecDepth 100000 in
set_option maxHeartbeats 800000 in
theorem find_7 {n : Nat} {e : Ent} {x y : Nat} {p q : Mt} (har : e.ar = [x, y]) (hx : KidC base zb s N D vN vA vM xsN xsA xsM n x p) (hy : KidC base zb s N D vN vA vM xsN xsA xsM n y q) (he : D[n]? = some e) (hk : e.k = 7) (hm : ∀ i j, e.m i j = (p i j && q i j)) : FindC base zb s N D vN vA vM xsN xsA xsM n e := by
  intro i j hij hj w mem hz ho
  have hn := (List.getElem?_eq_some_iff.1 he).1
  obtain ⟨bN, cN, z0, z1, z2, z3⟩ := hz.node he
  obtain ⟨bA, cA, cA', y1, y2, y3⟩ := hz.arg he
  rw [hk] at z2
  rw [har] at y2 y3
  have g0 := y3 0 x rfl
  have g1 := y3 1 y rfl
  have HX := Lib.hid (hx i j hij hj w mem hz ho)
  have HY := Lib.hid (fun w1 mem1 hz1 ho1 => hy i j hij hj w1 mem1 hz1 ho1)
  have HG := Lib.hid (fun w1 mem1 (hz1 : Zs w1 base zb s N D mem1 vN vA vM xsN xsA xsM) => (hz1.arg he).elim fun b h => h.elim fun c h => h.elim fun c' h => h.2.2 1 y (by rw [har]; rfl))
  have hm' := Lib.hid (hm i j)
  cases hp : p i j with
  | false =>
    have hr : Hid (e.m i j = false) := Lib.hid (hm'.out.trans (by rw [hp]; rfl))
    rw [hp] at HX
    clear y3 z0 z3 hz ho hk hm he hx hy hp
    obtain ⟨d, hd⟩ : ∃ d, d = D.length := ⟨_, rfl⟩
    rw [← hd] at hn z1 y1
    clear hd
    go_enter Tryz.func222, Tryz.ntmps222
    go_wp2_with (go_at_call 181; (with_reducible refine HX.out.mono ?_); rintro e w1 ⟨mem1, rfl, hz1, ho1, hs1, hb1⟩)
    go_ret
    exact ⟨mem1, congrArg (fun b => Ending.returned (.bool b)) hr.out.symm, hz1, ho1, hs1, hb1⟩
  | true =>
    have hr : Hid (e.m i j = q i j) := Lib.hid (hm'.out.trans (by rw [hp]; rfl))
    rw [hp] at HX
    clear y3 z0 z3 hz ho hk hm he hx hy hp
    obtain ⟨d, hd⟩ : ∃ d, d = D.length := ⟨_, rfl⟩
    rw [← hd] at hn z1 y1
    clear hd
    go_enter Tryz.func222, Tryz.ntmps222
    go_wp2_with (first | (go_at_call 181; (with_reducible refine HX.out.mono ?_); rintro e w1 ⟨mem1, rfl, hz1, ho1, hs1, hb1⟩; have g1 := HG.out _ _ hz1) | (go_at_call 181; (with_reducible refine (HY.out _ _ hz1 ho1).mono ?_); rintro e w2 ⟨mem2, rfl, hz2, ho2, hs2, hb2⟩))
    go_ret
    exact ⟨mem2, congrArg (fun b => Ending.returned (.bool b)) hr.out.symm, hz2, ho2, fun n' h => (hs2 n' h).trans (hs1 n' h), hb1.trans hb2⟩

set_option maxRecDepth 100000 in
set_option maxHeartbeats 800000 in
theorem find_9 {n : Nat} {e : Ent} {x : Nat} {p : Mt} (har : e.ar = [x]) (hx : KidC base zb s N D vN vA vM xsN xsA xsM n x p) (he : D[n]? = some e) (hk : e.k = 9) (hm : ∀ i j, e.m i j = (!p i j)) : FindC base zb s N D vN vA vM xsN xsA xsM n e := by
  intro i j hij hj w mem hz ho
  have hn := (List.getElem?_eq_some_iff.1 he).1
  obtain ⟨bN, cN, z0, z1, z2, z3⟩ := hz.node he
  obtain ⟨bA, cA, cA', y1, y2, y3⟩ := hz.arg he
  rw [hk] at z2
  rw [har] at y2 y3
  have g0 := y3 0 x rfl
  have HX := Lib.hid (hx i j hij hj w mem hz ho)
  have hm' := Lib.hid (hm i j)
  clear y3 z0 z3 hz ho hk hm he hx
  obtain ⟨d, hd⟩ : ∃ d, d = D.length := ⟨_, rfl⟩
  rw [← hd] at hn z1 y1
  clear hd
  go_enter Tryz.func222, Tryz.ntmps222
  go_wp2_with (go_at_call 181; (with_reducible refine HX.out.mono ?_); rintro e w1 ⟨mem1, rfl, hz1, ho1, hs1, hb1⟩)
  go_ret
  exact ⟨mem1, congrArg (fun b => Ending.returned (.bool b)) hm'.out.symm, hz1, ho1, hs1, hb1⟩

set_option maxRecDepth 100000 in
set_option maxHeartbeats 800000 in
theorem find_5 {n : Nat} {e : Ent} (hN : N ≤ 400) {x y : Nat} {p q : Mt} (har : e.ar = [x, y]) (hx : KidC base zb s N D vN vA vM xsN xsA xsM n x p) (hy : KidC base zb s N D vN vA vM xsN xsA xsM n y q) (he : D[n]? = some e) (hk : e.k = 5) (hm : ∀ i j, e.m i j = catM p q i j) : FindC base zb s N D vN vA vM xsN xsA xsM n e := by
  intro i j hij hj w mem hz ho
  have hn := (List.getElem?_eq_some_iff.1 he).1
  obtain ⟨bN, cN, z0, z1, z2, z3⟩ := hz.node he
  obtain ⟨bA, cA, cA', y1, y2, y3⟩ := hz.arg he
  rw [hk] at z2
  rw [har] at y2 y3
  have HX := Lib.hid (fun x' (h1 : i ≤ x') (h2 : x' ≤ j) w1 mem1 hz1 ho1 => hx i x' h1 (Nat.le_trans h2 hj) w1 mem1 hz1 ho1)
  have HY := Lib.hid (fun x' (h2 : x' ≤ j) w1 mem1 hz1 ho1 => hy x' j h2 hj w1 mem1 hz1 ho1)
  have HG := Lib.hid (fun w1 mem1 (hz1 : Zs w1 base zb s N D mem1 vN vA vM xsN xsA xsM) => (hz1.arg he).elim fun b h => h.elim fun c h => h.elim fun c' h => (⟨h.2.2 0 x (by rw [har]; rfl), h.2.2 1 y (by rw [har]; rfl)⟩ : _ ∧ _))
  have hm' := Lib.hid (hm i j)
  have HE := Lib.hid (And.intro hz ho)
  clear y3 z0 z3 hz ho hk hm he hx hy
  obtain ⟨d, hd⟩ : ∃ d, d = D.length := ⟨_, rfl⟩
  rw [← hd] at hn z1 y1
  clear hd
  go_enter Tryz.func222, Tryz.ntmps222
  go_wp2_with fail
  go_loopw [10] (fun v wr => ∃ (x' : Nat) (memr : Mem), v = .int .i64 x' ∧ i ≤ x' ∧ x' ≤ j + 1 ∧ (∀ y', i ≤ y' → y' < x' → (p i y' && q y' j) = false) ∧ Zs wr base zb s N D memr vN vA vM xsN xsA xsM ∧ OkM N D memr n ∧ (∀ n', n ≤ n' → memr n' = mem n') ∧ Below base w wr) (fun v _ => j + 1 - (intOf v).toNat)
  case atStart => exact ⟨i, mem, rfl, Nat.le_refl _, by omega, fun y' h1 h2 => by omega, HE.out.1, HE.out.2, fun _ _ => rfl, Below.refl _ _⟩
  case round =>
    obtain ⟨x', memr, rfl, hix, hxj, hno, hzr, hor, hsr, hbr⟩ := hrel
    have HNO := Lib.hid hno
    have HR := Lib.hid (And.intro hzr (And.intro hor (And.intro hsr hbr)))
    obtain ⟨g0, -⟩ := HG.out _ _ hzr
    clear hno hzr hor hsr hbr
    by_cases hx' : x' ≤ j
    · cases hp : p i x' with
      | false =>
        have HS : Hid (∀ y', i ≤ y' → y' < x' + 1 → (p i y' && q y' j) = false) := Lib.hid (fun y' h1 h2 => by
            by_cases hy' : y' = x'
            · rw [hy', hp]; rfl
            · exact HNO.out y' h1 (by omega))
        have HX' := Lib.hid (HX.out x' hix hx' _ _ HR.out.1 HR.out.2.1)
        rw [hp] at HX'
        clear hp
        go_wp2_with (go_at_call 181; (with_reducible refine HX'.out.mono ?_); rintro e w1 ⟨mem1, rfl, hz1, ho1, hs1, hb1⟩)
        have HE1 := Lib.hid (And.intro hz1 (And.intro ho1 (And.intro hs1 hb1)))
        clear hz1 ho1 hs1 hb1
        go_roundw
        case rel => exact ⟨x' + 1, mem1, by go_num, by omega, by omega, HS.out, HE1.out.1, HE1.out.2.1, fun n' h => (HE1.out.2.2.1 n' h).trans (HR.out.2.2.1 n' h), HR.out.2.2.2.trans HE1.out.2.2.2⟩
        case measure => simp [intOf]; omega
      | true =>
        cases hq : q x' j with
        | false =>
          have HS : Hid (∀ y', i ≤ y' → y' < x' + 1 → (p i y' && q y' j) = false) := Lib.hid (fun y' h1 h2 => by
            by_cases hy' : y' = x'
            · rw [hy', hp, hq]; rfl
            · exact HNO.out y' h1 (by omega))
          have HX' := Lib.hid (HX.out x' hix hx' _ _ HR.out.1 HR.out.2.1)
          have HY' := Lib.hid (HY.out x' hx')
          rw [hp] at HX'
          rw [hq] at HY'
          clear hp hq
          go_wp2_with (first | (go_at_call 181; (with_reducible refine HX'.out.mono ?_); rintro e w1 ⟨mem1, rfl, hz1, ho1, hs1, hb1⟩; have g1 := (HG.out _ _ hz1).2) | (go_at_call 181; (with_reducible refine (HY'.out _ _ hz1 ho1).mono ?_); rintro e w2 ⟨mem2, rfl, hz2, ho2, hs2, hb2⟩))
          have HE1 := Lib.hid (And.intro hz2 (And.intro ho2 (And.intro (fun n' h => (hs2 n' h).trans (hs1 n' h)) (hb1.trans hb2))))
          clear hz1 ho1 hs1 hb1 hz2 ho2 hs2 hb2 g1
          go_roundw
          case rel => exact ⟨x' + 1, mem2, by go_num, by omega, by omega, HS.out, HE1.out.1, HE1.out.2.1, fun n' h => (HE1.out.2.2.1 n' h).trans (HR.out.2.2.1 n' h), HR.out.2.2.2.trans HE1.out.2.2.2⟩
          case measure => simp [intOf]; omega
        | true =>
          have hr : Hid (e.m i j = true) := Lib.hid (hm'.out.trans (catM_yes hix hx' (by rw [hp, hq]; rfl)))
          have HX' := Lib.hid (HX.out x' hix hx' _ _ HR.out.1 HR.out.2.1)
          have HY' := Lib.hid (HY.out x' hx')
          rw [hp] at HX'
          rw [hq] at HY'
          clear hp hq
          go_wp2_with (first | (go_at_call 181; (with_reducible refine HX'.out.mono ?_); rintro e w1 ⟨mem1, rfl, hz1, ho1, hs1, hb1⟩; have g1 := (HG.out _ _ hz1).2) | (go_at_call 181; (with_reducible refine (HY'.out _ _ hz1 ho1).mono ?_); rintro e w2 ⟨mem2, rfl, hz2, ho2, hs2, hb2⟩))
          have HE1 := Lib.hid (And.intro hz2 (And.intro ho2 (And.intro (fun n' h => (hs2 n' h).trans (hs1 n' h)) (hb1.trans hb2))))
          clear hz1 ho1 hs1 hb1 hz2 ho2 hs2 hb2 g1
          go_ret
          exact ⟨mem2, congrArg (fun b => Ending.returned (.bool b)) hr.out.symm, HE1.out.1, HE1.out.2.1, fun n' h => (HE1.out.2.2.1 n' h).trans (HR.out.2.2.1 n' h), HR.out.2.2.2.trans HE1.out.2.2.2⟩
    · have hr : Hid (e.m i j = false) := Lib.hid (hm'.out.trans (catM_no fun y' h1 h2 => HNO.out y' h1 (by omega)))
      go_wp2_with fail
      go_ret
      exact ⟨memr, congrArg (fun b => Ending.returned (.bool b)) hr.out.symm, HR.out.1, HR.out.2.1, HR.out.2.2.1, HR.out.2.2.2⟩

end
end Go.Proofs.YtppliiingoonlaaGreatDoor
namespace Go.Proofs.YtppliiingoonlaaGreatDoor
open Go.RowKit
section
variable {base zb : Nat} {s : ByteArray} {N : Nat} {D : List Ent} {vN vA vM : Value} {xsN xsA xsM : List Value}
/-- What asking for node n gives. -/
def IsC (base zb : Nat) (s : ByteArray) (N : Nat) (D : List Ent) (vN vA vM : Value) (xsN xsA xsM : List Value) (n : Nat) (e : Ent) : Prop := ∀ i j, i ≤ j → j ≤ N → ∀ w mem, Zs w base zb s N D mem vN vA vM xsN xsA xsM → OkM N D mem (n + 1) →
  Calls Tryz.prog 181 #[.pointer (some ⟨zb, 0, none⟩), .int .i64 (n : Int), .int .i64 (i : Int), .int .i64 (j : Int)] w fun e' w' => ∃ mem', e' = .returned (.bool (e.m i j)) ∧
    Zs w' base zb s N D mem' vN vA vM xsN xsA xsM ∧ OkM N D mem' (n + 1) ∧ (∀ n', n < n' → mem' n' = mem n') ∧ Below base w w'
theorem IsC.kid {n x : Nat} {e : Ent} (h : IsC base zb s N D vN vA vM xsN xsA xsM x e) (hx : x < n) : KidC base zb s N D vN vA vM xsN xsA xsM n x e.m := fun i j hij hj w mem hz ho =>
  (h i j hij hj w mem hz (ho.mono hx)).mono fun _ _ ⟨mem', he, hz', ho', hs', hb'⟩ => ⟨mem', he, hz', ho.next ho' hs', fun n' hn => hs' n' (Nat.lt_of_lt_of_le hx hn), hb'⟩

set_option maxRecDepth 100000 in
set_option maxHeartbeats 1600000 in
/-- .. where the number is there already. -/
theorem is_known {n : Nat} {e : Ent} (he : D[n]? = some e) {i j : Nat} (hij : i ≤ j) (hj : j ≤ N) (w : World) (mem : Mem) (hz : Zs w base zb s N D mem vN vA vM xsN xsA xsM) (hm : mem n i j = codeM (e.m i j)) :
    Calls Tryz.prog 181 #[.pointer (some ⟨zb, 0, none⟩), .int .i64 (n : Int), .int .i64 (i : Int), .int .i64 (j : Int)] w fun e' w' => e' = .returned (.bool (e.m i j)) ∧ w = w' := by
  have hn := (List.getElem?_eq_some_iff.1 he).1
  obtain ⟨b, c, c', t1, t2, t3, t4, -, -, -, -⟩ := hz.table he (Nat.le_trans hij hj) hj
  obtain ⟨r, hr⟩ : ∃ r, r = e.r i := ⟨_, rfl⟩
  obtain ⟨q, hq⟩ : ∃ q, q = N + 1 := ⟨_, rfl⟩
  obtain ⟨d, hd⟩ : ∃ d, d = D.length := ⟨_, rfl⟩
  rw [← hr] at t3 t4
  rw [← hq] at t2 t3
  rw [← hd] at t1 hn
  rw [hm] at t4
  have bi : i < q := by omega
  have bj : j < q := by omega
  obtain ⟨v, hv⟩ : ∃ v, v = e.m i j := ⟨_, rfl⟩
  rw [← hv] at t4 ⊢
  clear hz hm hr hq hd he hv
  cases v with
  | true =>
    have t4' : w.cell? ⟨r, j, none⟩ = some (.int .i64 1) := t4
    clear t4
    go_enter Tryz.func181, Tryz.ntmps181
    go_wp2_with fail
    go_ret
    exact ⟨rfl, rfl⟩
  | false =>
    have t4' : w.cell? ⟨r, j, none⟩ = some (.int .i64 2) := t4
    clear t4
    go_enter Tryz.func181, Tryz.ntmps181
    go_wp2_with fail
    go_ret
    exact ⟨rfl, rfl⟩

set_option maxRecDepth 100000 in
set_option maxHeartbeats 1600000 in
/-- .. of a repetition, whose row is filled in. -/
theorem is_star {n x : Nat} {e : Ent} {p : Mt} (hN : N ≤ 400) (hs : s.size = N) (he : D[n]? = some e) (hk : e.k = 8) (har : e.ar = [x]) (hem : ∀ i j, e.m i j = starM p i j) (hx : KidC base zb s N D vN vA vM xsN xsA xsM n x p) {i j : Nat} (hij : i ≤ j) (hj : j ≤ N)
    (w : World) (mem : Mem) (hz : Zs w base zb s N D mem vN vA vM xsN xsA xsM) (ho : OkM N D mem (n + 1)) (hm : mem n i j = 0) :
    Calls Tryz.prog 181 #[.pointer (some ⟨zb, 0, none⟩), .int .i64 (n : Int), .int .i64 (i : Int), .int .i64 (j : Int)] w fun e' w' => ∃ mem', e' = .returned (.bool (e.m i j)) ∧
      Zs w' base zb s N D mem' vN vA vM xsN xsA xsM ∧ OkM N D mem' (n + 1) ∧ (∀ n', n < n' → mem' n' = mem n') ∧ Below base w w' := by
  have hn := (List.getElem?_eq_some_iff.1 he).1
  obtain ⟨b, c, c', t1, t2, t3, t4, -, -, -, -⟩ := hz.table he (Nat.le_trans hij hj) hj
  obtain ⟨bN, cN, z0, z1, z2, z3⟩ := hz.node he
  rw [hm] at t4
  rw [hk] at z2
  have HT := Lib.hid (fun w1 mem1 (h : Zs w1 base zb s N D mem1 vN vA vM xsN xsA xsM) => h.table he (Nat.le_trans hij hj) hj)
  have HST := Lib.hid ((star_any hN hs he har hx (Nat.le_trans hij hj) w mem hz (ho.mono (Nat.le_succ n))).mono (fun e' w' ⟨h1, mem', h2⟩ => (⟨h1, mem', h2, h2.done j hij (by omega), h2.ok.last he (fun i' j' hi' hj' => by
    by_cases e1 : i' = i
    · subst e1
      by_cases e2 : j' < i'
      · rw [h2.low j' e2]
        exact ho.own he i' j' hi' hj'
      · rw [h2.done j' (by omega) (by omega), hem]
        exact .inr rfl
    · rw [congrFun (h2.rows i' e1) j']
      exact ho.own he i' j' hi' hj')⟩ : e' = Ending.returned (.tuple #[]) ∧ ∃ mem', StR base zb s N D vN vA vM xsN xsA xsM n i (N + 1) p mem w mem' w' ∧ mem' n i j = codeM (starM p i j) ∧ OkM N D mem' (n + 1))))
  obtain ⟨v, hv⟩ : ∃ v, v = e.m i j := ⟨_, rfl⟩
  have hv' : starM p i j = v := by rw [hv, hem]
  obtain ⟨r, hr⟩ : ∃ r, r = e.r i := ⟨_, rfl⟩
  obtain ⟨q, hq⟩ : ∃ q, q = N + 1 := ⟨_, rfl⟩
  obtain ⟨d, hd⟩ : ∃ d, d = D.length := ⟨_, rfl⟩
  rw [← hr] at t3 t4 HT
  rw [← hq] at t2 t3 HT
  rw [← hd] at t1 z1 hn HT
  rw [hv'] at HST
  rw [← hv]
  have bi : i < q := by omega
  have bj : j < q := by omega
  clear hz ho hm hk har hem hx he hr hq hd hv hv' z0 z3
  go_enter Tryz.func181, Tryz.ntmps181
  go_wp2_with fail
  refine HST.out.mono ?_
  rintro e' w1 ⟨rfl, mem1, hst, hmj, hok⟩
  obtain ⟨b', c1', c2', s1, s2, s3, s4, -, -, -, -⟩ := HT.out _ _ hst.z
  rw [hmj] at s4
  have HE := Lib.hid (And.intro hst hok)
  clear hst hok hmj t1 t2 t3 t4 z1 z2
  cases v with
  | true =>
    have s4' : w1.cell? ⟨r, j, none⟩ = some (.int .i64 1) := s4
    clear s4
    go_wp2_with fail
    go_ret
    exact ⟨mem1, rfl, HE.out.1.z, HE.out.2, HE.out.1.past, HE.out.1.below⟩
  | false =>
    have s4' : w1.cell? ⟨r, j, none⟩ = some (.int .i64 2) := s4
    clear s4
    go_wp2_with fail
    go_ret
    exact ⟨mem1, rfl, HE.out.1.z, HE.out.2, HE.out.1.past, HE.out.1.below⟩

/-- The blocks of a table are the same in every world of the work. -/
theorem Zs.fixed {w : World} {mem : Mem} (h : Zs w base zb s N D mem vN vA vM xsN xsA xsM) {n : Nat} {e : Ent} (he : D[n]? = some e) {i : Nat} (hi : i ≤ N) :
    ∃ b c c', ∀ (w1 : World) (mem1 : Mem), Zs w1 base zb s N D mem1 vN vA vM xsN xsA xsM → w1.cell? ⟨zb, 3, none⟩ = some (.slice (some ⟨b, 0, none⟩) D.length c) ∧ w1.cell? ⟨b, n, none⟩ = some (.slice (some ⟨e.t, 0, none⟩) (N + 1) c') ∧ w1.cell? ⟨e.t, i, none⟩ = some (.slice (some ⟨e.r i, 0, none⟩) (N + 1) (N + 1)) ∧
      (∀ j, j ≤ N → w1.cell? ⟨e.r i, j, none⟩ = some (.int .i64 (mem1 n i j)) ∧ w1.frozen? ⟨e.r i, j, none⟩ = false) ∧ zb ≠ e.r i ∧ b ≠ e.r i ∧ e.t ≠ e.r i := by
  have hn := (List.getElem?_eq_some_iff.1 he).1
  obtain ⟨_, _, va, vm, _, hxm, _, ⟨c', hvm, _⟩, _⟩ := h.el n e he
  obtain ⟨b, c, hv, _, _, _⟩ := owns_cell h.memo (by omega)
  refine ⟨b, c, c', fun w1 mem1 h1 => ?_⟩
  obtain ⟨_, _, va1, vm1, _, hxm1, _, ⟨c1', hvm1, h4⟩, h5⟩ := h1.el n e he
  obtain ⟨b1, c1, hv1, _, _, hc⟩ := owns_cell h1.memo (by omega)
  obtain ⟨_, _, i3, _, _, i6⟩ := h1.ins (e.r i) ⟨n, e, he, .inr (.inr ⟨i, hi, rfl⟩)⟩
  rw [hv] at hv1
  cases hv1
  rw [hxm] at hxm1
  cases hxm1
  refine ⟨?_, (hc n vm (by omega) hxm).trans (by rw [hvm]), h4 i hi, fun j hj => ⟨(h5 i hi).cell (by omega), (h5 i hi).free _⟩, Ne.symm i3, fun e => i6 (by rw [hv, ← e]; rfl), Ne.symm (h1.apart.args n n e e i he he hi).2⟩
  rw [Lib.cell_of_heap h1.box, ← hv]
  rfl

set_option maxRecDepth 100000 in
set_option maxHeartbeats 1600000 in
/-- .. of another node, found out. -/
theorem is_find {n : Nat} {e : Ent} (he : D[n]? = some e) (hk : e.k ≠ 8) (hf : FindC base zb s N D vN vA vM xsN xsA xsM n e) {i j : Nat} (hij : i ≤ j) (hj : j ≤ N)
    (w : World) (mem : Mem) (hz : Zs w base zb s N D mem vN vA vM xsN xsA xsM) (ho : OkM N D mem (n + 1)) (hm : mem n i j = 0) :
    Calls Tryz.prog 181 #[.pointer (some ⟨zb, 0, none⟩), .int .i64 (n : Int), .int .i64 (i : Int), .int .i64 (j : Int)] w fun e' w' => ∃ mem', e' = .returned (.bool (e.m i j)) ∧
      Zs w' base zb s N D mem' vN vA vM xsN xsA xsM ∧ OkM N D mem' (n + 1) ∧ (∀ n', n < n' → mem' n' = mem n') ∧ Below base w w' := by
  have hn := (List.getElem?_eq_some_iff.1 he).1
  have hi : i ≤ N := Nat.le_trans hij hj
  obtain ⟨b, c, c', hfix⟩ := hz.fixed he hi
  obtain ⟨t1, t2, t3, t45, t6, t7, t8⟩ := hfix w mem hz
  obtain ⟨t4, t5⟩ := t45 j hj
  obtain ⟨bN, cN, z0, z1, z2, z3⟩ := hz.node he
  rw [hm] at t4
  have e8 : (e.k == 8) = false := by simpa using hk
  obtain ⟨v, hv⟩ : ∃ v, v = e.m i j := ⟨_, rfl⟩
  have HF := Lib.hid (fun w' (hb : Below w.heap.size w w') (hbb : Below base w w') => ((hf i j hij hj w' mem (hz.same hb.size (fun g _ hg => hb.block g hg)) (ho.mono (Nat.le_succ n))).mono (fun e' w1 ⟨mem1, h1, h2, h3, h4, h5⟩ => (⟨mem1, h1.trans (by rw [hv]), h2, h3, h4, hbb.trans h5⟩ : ∃ mem1, e' = Ending.returned (.bool v) ∧ Zs w1 base zb s N D mem1 vN vA vM xsN xsA xsM ∧ OkM N D mem1 n ∧ (∀ n', n ≤ n' → mem1 n' = mem n') ∧ Below base w w1))))
  have HBIT := Lib.hid (fun w => l1Bit_any v w)
  obtain ⟨z, hzv⟩ : ∃ z : Int, z = if v then 1 else 0 := ⟨_, rfl⟩
  have hz0 : 0 ≤ z := by rw [hzv]; split <;> omega
  have hz1 : z ≤ 1 := by rw [hzv]; split <;> omega
  have hzc : 2 - z = codeM v := by rw [hzv]; cases v <;> rfl
  rw [← hzv] at HBIT
  have hwz : IntKind.i64.wrap (2 - z) = 2 - z := by rw [IntKind.wrap_i64]; omega
  have hz' := Lib.hid (And.intro hz ho)
  -- what stands behind the store
  have HSET := Lib.hid (fun w1 mem1 (h : Zs w1 base zb s N D mem1 vN vA vM xsN xsA xsM) (h3 : OkM N D mem1 n) (h4 : ∀ n', n ≤ n' → mem1 n' = mem n') (h5 : Below base w w1) => (⟨h.put he hi (codeM v) (j := j), (h3.put (Nat.le_refl n)).last he (fun i' j' hi' hj' => by
      by_cases e1 : i' = i ∧ j' = j
      · obtain ⟨rfl, rfl⟩ := e1
        rw [Mem.put_at, hv]
        exact .inr rfl
      · rw [Mem.put_ne _ _ (fun h => e1 ⟨h.2.1, h.2.2⟩), h4 n (Nat.le_refl n)]
        exact ho.own he i' j' hi' hj'), fun n' hn' => by
      funext a b
      rw [Mem.put_ne _ _ (fun h => by omega)]
      exact congrFun (congrFun (h4 n' (Nat.le_of_lt hn')) a) b, h5.setCell (h.ins _ ⟨n, e, he, .inr (.inr ⟨i, hi, rfl⟩)⟩).1 _⟩ :
    Zs (w1.setCell ⟨e.r i, j, none⟩ (.int .i64 (codeM v))) base zb s N D (mem1.put n i j (codeM v)) vN vA vM xsN xsA xsM ∧ OkM N D (mem1.put n i j (codeM v)) (n + 1) ∧ (∀ n', n < n' → mem1.put n i j (codeM v) n' = mem n') ∧ Below base w (w1.setCell ⟨e.r i, j, none⟩ (.int .i64 (codeM v)))))
  have HFX := Lib.hid (fun w1 mem1 h => hfix w1 mem1 h)
  rw [← hzc] at HSET
  have HZC := Lib.hid hzc
  obtain ⟨r, hr⟩ : ∃ r, r = e.r i := ⟨_, rfl⟩
  obtain ⟨q, hq⟩ : ∃ q, q = N + 1 := ⟨_, rfl⟩
  obtain ⟨d, hd⟩ : ∃ d, d = D.length := ⟨_, rfl⟩
  rw [← hr] at t3 t4 t5 t6 t7 t8 HSET HFX
  rw [← hq] at t2 t3 HFX
  rw [← hd] at t1 z1 hn HFX
  rw [← hv]
  have bi0 : (0 : Int) ≤ (i : Int) := by omega
  have bi : (i : Int) < (q : Int) := by omega
  have bj0 : (0 : Int) ≤ (j : Int) := by omega
  have bj : (j : Int) < (q : Int) := by omega
  have bn0 : (0 : Int) ≤ (n : Int) := by omega
  have bn : (n : Int) < (d : Int) := by omega
  have HJ := Lib.hid hj
  clear hz ho hm hk he hr hq hd hv hf z0 z3 hfix t45 hzv hzc hj hi hij hn
  go_enter Tryz.func181, Tryz.ntmps181
  go_wp2_with fail
  go_region_held3 (fun w' => w'.cell? ⟨zb, 3, none⟩ = some (.slice (some ⟨b, 0, none⟩) d c) ∧ w'.cell? ⟨b, n, none⟩ = some (.slice (some ⟨e.t, 0, none⟩) q c') ∧ w'.cell? ⟨e.t, i, none⟩ = some (.slice (some ⟨r, 0, none⟩) q q)) (first | exact ⟨t1, t2, t3⟩ | exact ⟨s1, s2, s3⟩ | exact HK.out _ | go_keep)
    (first | (go_at_call 153; (with_reducible refine (HBIT.out _).mono ?_); rintro e w' ⟨rfl, rfl⟩) | (go_at_call 222; (with_reducible refine (HF.out _ ?_ ?_).mono ?_); (first | exact (Below.refl _ _).drew | exact Below.refl _ _); (first | exact (Below.refl _ _).drew | exact Below.refl _ _); rintro e' w1 ⟨mem1, rfl, hz1, ho1, hs1, hb1⟩; obtain ⟨s1, s2, s3, s45, s6, s7, s8⟩ := HFX.out _ _ hz1; obtain ⟨s4, s5⟩ := s45 j HJ.out; have HK := Lib.hid (fun v => (⟨set_cell (k := j) (v := v) s1 s6, set_cell (k := j) (v := v) s2 s7, set_cell (k := j) (v := v) s3 s8⟩ : _ ∧ _ ∧ _))))
  all_goals
    obtain ⟨k1, k2, k3⟩ := HK.out (.int .i64 (2 - z))
    have k4 := World.cell?_setCell_same w1 ⟨r, j, none⟩ (.int .i64 (2 - z)) s4
    have hcmp : ((2 - z : Int) == 1) = v := by rw [HZC.out]; exact codeM_one v
    have HE := Lib.hid (HSET.out w1 mem1 hz1 ho1 hs1 hb1)
    clear hz1 ho1 hs1 hb1 s1 s2 s3 s4 s5 s45 s6 s7 s8 t1 t2 t3 t4 t5 t6 t7 t8 HK z1 z2
    go_wp2_with fail
    go_ret
    exact ⟨mem1.put n i j (2 - z), rfl, HE.out.1.same (Nat.le_refl _) (fun _ _ _ => rfl), HE.out.2.1, HE.out.2.2.1, by first | exact HE.out.2.2.2 | exact HE.out.2.2.2.drew⟩

theorem one_of {α : Type} {l : List α} (h : l.length = 1) : ∃ x, l = [x] := by
  match l, h with
  | [x], _ => exact ⟨x, rfl⟩
theorem two_of {α : Type} {l : List α} (h : l.length = 2) : ∃ x y, l = [x, y] := by
  match l, h with
  | [x, y], _ => exact ⟨x, y, rfl⟩

theorem is_any (hN : N ≤ 400) (hs : s.size = N) (hwf : Wf s.data.toList D) (n : Nat) : ∀ e, D[n]? = some e → IsC base zb s N D vN vA vM xsN xsA xsM n e := by
  induction n using Nat.strongRecOn with
  | ind n ih =>
    intro e he i j hij hj w mem hz ho
    have hn := (List.getElem?_eq_some_iff.1 he).1
    by_cases hm : mem n i j = 0
    · obtain ⟨hlt, hok, hem⟩ := hwf n e he
      have kid : ∀ x, x ∈ e.ar → KidC base zb s N D vN vA vM xsN xsA xsM n x (mOf D x) := fun x hx => by
        have hxn := hlt x hx
        have he' : D[x]? = some D[x] := List.getElem?_eq_getElem (by omega)
        rw [mOf_at he']
        exact (ih x hxn _ he').kid hxn
      have fin : e.k ≠ 8 → FindC base zb s N D vN vA vM xsN xsA xsM n e := fun h8 => by
        rcases nodeOk_cases hok with ⟨hk, hl⟩ | ⟨hk, hl⟩ | ⟨hk, _, hl⟩ | ⟨hk, hl⟩ | ⟨hk, hl⟩ | ⟨hk, hl⟩ | ⟨hk, hl⟩ | ⟨hk, hl⟩ | ⟨hk, hl⟩
        · exact find_1 he hk fun i j => by rw [hem, hk]; simp [nodeM]
        · exact find_2 he hk fun i j => by rw [hem, hk]; simp [nodeM]
        · exact find_3 hs he hk fun i j => by rw [hem, hk]; simp [nodeM]
        · exact find_4 hN he hk fun i j => by rw [hem, hk]; simp [nodeM]
        · obtain ⟨x, y, hxy⟩ := two_of hl
          exact find_5 hN hxy (kid x (by rw [hxy]; simp)) (kid y (by rw [hxy]; simp)) he hk fun i j => by rw [hem, hk, hxy]; simp [nodeM]
        · obtain ⟨x, y, hxy⟩ := two_of hl
          exact find_6 hxy (kid x (by rw [hxy]; simp)) (kid y (by rw [hxy]; simp)) he hk fun i j => by rw [hem, hk, hxy]; simp [nodeM]
        · obtain ⟨x, y, hxy⟩ := two_of hl
          exact find_7 hxy (kid x (by rw [hxy]; simp)) (kid y (by rw [hxy]; simp)) he hk fun i j => by rw [hem, hk, hxy]; simp [nodeM]
        · exact absurd hk h8
        · obtain ⟨x, hx⟩ := one_of hl
          exact find_9 hx (kid x (by rw [hx]; simp)) he hk fun i j => by rw [hem, hk, hx]; simp [nodeM]
      by_cases h8 : e.k = 8
      · rcases nodeOk_cases hok with ⟨hk, hl⟩ | ⟨hk, hl⟩ | ⟨hk, _, hl⟩ | ⟨hk, hl⟩ | ⟨hk, hl⟩ | ⟨hk, hl⟩ | ⟨hk, hl⟩ | ⟨hk, hl⟩ | ⟨hk, hl⟩ <;> first | (exfalso; omega) | skip
        obtain ⟨x, hx⟩ := one_of hl
        exact is_star hN hs he h8 hx (fun i j => by rw [hem, h8, hx]; simp [nodeM]) (kid x (by rw [hx]; simp)) hij hj w mem hz ho hm
      · exact is_find he h8 (fin h8) hij hj w mem hz ho hm
    · exact (is_known he hij hj w mem hz ((ho.own he i j (Nat.le_trans hij hj) hj).resolve_left hm)).mono fun _ _ ⟨h1, h2⟩ => ⟨mem, h1, h2 ▸ hz, ho, fun _ _ => rfl, h2 ▸ Below.refl _ _⟩
end
end Go.Proofs.YtppliiingoonlaaGreatDoor
