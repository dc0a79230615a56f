/- Texts of one proof. -/
import Derived.Shelf.Abstract
import Derived.Test.YtiijlpmdnokjfaaGreatDoorCplZPack28
set_option maxRecDepth 100000
set_option maxHeartbeats 20000000
namespace Go.Proofs.YtiijlpmdnokjfaaGreatDoor
open Go.RowKit
theorem Chg.drew {S : Nat -> Prop} {w w' : World} (h : Chg S w w') : Chg S w w'.drew := ⟨h.os, h.tape, h.output, h.size, h.block⟩
def Ans (k : Nat) (cap : Array Value) (b : Bool) (J : World -> Prop) (S : Nat -> Prop) (i j : Nat) : Prop :=
  ∀ w, J w -> Calls Tryz.prog k (#[.int .i64 (i : Int), .int .i64 (j : Int)] ++ cap) w λ e w' => e = .returned (.bool b) /\ J w' /\ Chg S w w'
def Keeps (J : World -> Prop) (S : Nat -> Prop) : Prop := ∀ w w', J w -> (∀ g, S g -> w'.heap[g]? = w.heap[g]?) -> J w'
def Has (J : World -> Prop) (S : Nat -> Prop) : Prop := ∀ w, J w -> ∀ g, S g -> g < w.heap.size
structure Mat (N : Nat) (M : Mt) (k : Nat) (cap : Array Value) (J : World -> Prop) (S : Nat -> Prop) : Prop where
  enter : ∀ args w, (callFunc k args).run Tryz.prog w = .ok (.enter k args) w
  keeps : Keeps J S
  has : Has J S
  call : ∀ i j, i <= j -> j <= N -> Ans k cap (M i j) J S i j
structure RemB where
  bp : Nat
  bk : Nat
  bm : Nat
  bt : Nat
  K : Nat
  T : Nat
def RemB.All (B : RemB) (g : Nat) : Prop := g = B.bp \/ g = B.bk \/ g = B.bm \/ g = B.bt \/ g = B.K \/ g = B.T
def Rem (N : Nat) (M : Mt) (fm : Value) (B : RemB) (w : World) : Prop :=
  w.heap[B.bp]? = some (.cells #[.int .i64 ((N + 1 : Nat) : Int)] 3 (0, 0)) /\ w.heap[B.bk]? = some (.cells #[.slice (some ⟨B.K, 0, none⟩) ((N + 1) * (N + 1)) ((N + 1) * (N + 1))] 28 (0, 0)) /\
  w.heap[B.bm]? = some (.cells #[fm] 53 (0, 0)) /\ w.heap[B.bt]? = some (.cells #[.slice (some ⟨B.T, 0, none⟩) ((N + 1) * (N + 1)) ((N + 1) * (N + 1))] 28 (0, 0)) /\
  ∃ kn mt : Nat -> Bool, Rw w B.K 4 ((N + 1) * (N + 1)) (λ x => .bool (kn x)) /\ Rw w B.T 4 ((N + 1) * (N + 1)) (λ x => .bool (mt x)) /\
    ∀ i j, i <= N -> j <= N -> kn (i * (N + 1) + j) = true -> mt (i * (N + 1) + j) = M i j
theorem Rem.same {N : Nat} {M : Mt} {fm : Value} {B : RemB} {w w' : World} (h : Rem N M fm B w) (hs : ∀ g, B.All g -> w'.heap[g]? = w.heap[g]?) : Rem N M fm B w' := by
  obtain ⟨h1, h2, h3, h4, kn, mt, h5, h6, h7⟩ := h
  exact ⟨(hs _ (.inl rfl)).trans h1, (hs _ (.inr (.inl rfl))).trans h2, (hs _ (.inr (.inr (.inl rfl)))).trans h3, (hs _ (.inr (.inr (.inr (.inl rfl))))).trans h4, kn, mt, h5.same (hs _ (.inr (.inr (.inr (.inr (.inl rfl)))))), h6.same (hs _ (.inr (.inr (.inr (.inr (.inr rfl)))))), h7⟩
theorem Rem.lt {N : Nat} {M : Mt} {fm : Value} {B : RemB} {w : World} (h : Rem N M fm B w) {g : Nat} (hg : B.All g) : g < w.heap.size := by
  obtain ⟨h1, h2, h3, h4, kn, mt, h5, h6, h7⟩ := h
  rcases hg with rfl | rfl | rfl | rfl | rfl | rfl
  . exact lt_of_block h1
  . exact lt_of_block h2
  . exact lt_of_block h3
  . exact lt_of_block h4
  . exact h5.lt
  . exact h6.lt
structure RemB.Apart (B : RemB) : Prop where
  kt : B.K ≠ B.T
  kb : B.K ≠ B.bp /\ B.K ≠ B.bk /\ B.K ≠ B.bm /\ B.K ≠ B.bt
  tb : B.T ≠ B.bp /\ B.T ≠ B.bk /\ B.T ≠ B.bm /\ B.T ≠ B.bt
theorem place_inj {N i j i' j' : Nat} (hj : j <= N) (hj' : j' <= N) (h : i * (N + 1) + j = i' * (N + 1) + j') : i = i' /\ j = j' := by
  have h1 : (i * (N + 1) + j) / (N + 1) = i := by
    rw [Nat.mul_comm, Nat.mul_add_div (by omega), Nat.div_eq_of_lt (by omega)]; omega
  have h2 : (i' * (N + 1) + j') / (N + 1) = i' := by
    rw [Nat.mul_comm, Nat.mul_add_div (by omega), Nat.div_eq_of_lt (by omega)]; omega
  have e : i = i' := by rw [<- h1, <- h2, h]
  subst e
  exact ⟨rfl, by omega⟩
theorem place_lt {N i j : Nat} (hi : i <= N) (hj : j <= N) : i * (N + 1) + j < (N + 1) * (N + 1) := by
  have : i * (N + 1) <= N * (N + 1) := Nat.mul_le_mul_right _ hi
  rw [Nat.add_mul N 1 (N + 1)]
  omega
theorem place_le {N : Nat} (h : N <= 30) : (N + 1) * (N + 1) <= 961 := Nat.mul_le_mul (by omega : N + 1 <= 31) (by omega : N + 1 <= 31)
theorem Rem.put {N : Nat} {M : Mt} {fm : Value} {B : RemB} {w : World} (h : Rem N M fm B w) (ha : B.Apart) {i j : Nat} (hi : i <= N) (hj : j <= N) :
    Rem N M fm B ((w.setCell ⟨B.T, i * (N + 1) + j, none⟩ (.bool (M i j))).setCell ⟨B.K, i * (N + 1) + j, none⟩ (.bool true)) := by
  obtain ⟨h1, h2, h3, h4, kn, mt, h5, h6, h7⟩ := h
  have hk : ∀ g, g ≠ B.K -> g ≠ B.T -> ((w.setCell ⟨B.T, i * (N + 1) + j, none⟩ (.bool (M i j))).setCell ⟨B.K, i * (N + 1) + j, none⟩ (.bool true)).heap[g]? = w.heap[g]? := λ g h1 h2 =>
    (Below.heap_setCell _ _ _ g h1).trans (Below.heap_setCell _ _ _ g h2)
  obtain ⟨k1, k2, k3, k4⟩ := ha.kb
  obtain ⟨t1, t2, t3, t4⟩ := ha.tb
  refine ⟨(hk _ (Ne.symm k1) (Ne.symm t1)).trans h1, (hk _ (Ne.symm k2) (Ne.symm t2)).trans h2, (hk _ (Ne.symm k3) (Ne.symm t3)).trans h3, (hk _ (Ne.symm k4) (Ne.symm t4)).trans h4,
    λ x => if x = i * (N + 1) + j then true else kn x, λ x => if x = i * (N + 1) + j then M i j else mt x, ?_, ?_, ?_⟩
  . refine (((h5.same (Below.heap_setCell _ _ _ _ ha.kt)).set (i * (N + 1) + j) (.bool true))).congr λ x _ => ?_
    by_cases hx : x = i * (N + 1) + j
    . simp [hx]
    . simp [hx]
  . refine ((h6.set (i * (N + 1) + j) (.bool (M i j))).same (Below.heap_setCell _ _ _ _ (Ne.symm ha.kt))).congr λ x _ => ?_
    by_cases hx : x = i * (N + 1) + j
    . simp [hx]
    . simp [hx]
  . intro i' j' hi' hj' hkn
    by_cases hx : i' * (N + 1) + j' = i * (N + 1) + j
    . obtain ⟨rfl, rfl⟩ := place_inj hj' hj hx
      simp
    . simp only [if_neg hx] at hkn ⊢
      exact h7 i' j' hi' hj' hkn
end Go.Proofs.YtiijlpmdnokjfaaGreatDoor
namespace Go.Proofs.YtiijlpmdnokjfaaGreatDoor
open Go.RowKit
def remCap (B : RemB) : Array Value := #[.pointer (some ⟨B.bp, 0, none⟩), .pointer (some ⟨B.bk, 0, none⟩), .pointer (some ⟨B.bm, 0, none⟩), .pointer (some ⟨B.bt, 0, none⟩)]
theorem Rem.facts {N : Nat} {M : Mt} {fm : Value} {B : RemB} {w : World} (h : Rem N M fm B w) (p q m : Nat) (hp : p < q) (hq : q = (N + 1) * (N + 1)) (hm : m = N + 1) :
    w.cell? ⟨B.bp, 0, none⟩ = some (.int .i64 (m : Int)) /\ w.cell? ⟨B.bk, 0, none⟩ = some (.slice (some ⟨B.K, 0, none⟩) q q) /\ w.cell? ⟨B.bm, 0, none⟩ = some fm /\ w.cell? ⟨B.bt, 0, none⟩ = some (.slice (some ⟨B.T, 0, none⟩) q q) /\
      w.frozen? ⟨B.K, p, none⟩ = false /\ w.frozen? ⟨B.T, p, none⟩ = false /\ ∃ a b : Bool, w.cell? ⟨B.K, p, none⟩ = some (.bool a) /\ w.cell? ⟨B.T, p, none⟩ = some (.bool b) := by
  subst hq hm
  obtain ⟨h1, h2, h3, h4, kn, mt, h5, h6, h7⟩ := h
  exact ⟨cell_of_one h1, cell_of_one h2, cell_of_one h3, cell_of_one h4, h5.free _, h6.free _, kn p, mt p, h5.cell hp, h6.cell hp⟩
theorem Rem.mid {N : Nat} {M : Mt} {fm : Value} {B : RemB} {w : World} (h : Rem N M fm B w) (ha : B.Apart) (v : Bool) (p q : Nat) (hp : p < q) (hq : q = (N + 1) * (N + 1)) :
    (w.setCell ⟨B.T, p, none⟩ (.bool v)).cell? ⟨B.bk, 0, none⟩ = some (.slice (some ⟨B.K, 0, none⟩) q q) /\ (w.setCell ⟨B.T, p, none⟩ (.bool v)).frozen? ⟨B.K, p, none⟩ = false /\ (∃ a : Bool, (w.setCell ⟨B.T, p, none⟩ (.bool v)).cell? ⟨B.K, p, none⟩ = some (.bool a)) /\
    ((w.setCell ⟨B.T, p, none⟩ (.bool v)).setCell ⟨B.K, p, none⟩ (.bool true)).cell? ⟨B.bt, 0, none⟩ = some (.slice (some ⟨B.T, 0, none⟩) q q) /\
    ((w.setCell ⟨B.T, p, none⟩ (.bool v)).setCell ⟨B.K, p, none⟩ (.bool true)).cell? ⟨B.T, p, none⟩ = some (.bool v) := by
  subst hq
  obtain ⟨h1, h2, h3, h4, kn, mt, h5, h6, h7⟩ := h
  obtain ⟨k1, k2, k3, k4⟩ := ha.kb
  obtain ⟨t1, t2, t3, t4⟩ := ha.tb
  have h5' := h5.same (Below.heap_setCell w ⟨B.T, p, none⟩ (.bool v) B.K ha.kt)
  refine ⟨cell_of_one ((Below.heap_setCell _ _ _ _ (Ne.symm t2)).trans h2), h5'.free _, ⟨_, h5'.cell hp⟩, cell_of_one ((Below.heap_setCell _ _ _ _ (Ne.symm k4)).trans ((Below.heap_setCell _ _ _ _ (Ne.symm t4)).trans h4)), ?_⟩
  have := ((h6.set p (.bool v)).same (Below.heap_setCell _ ⟨B.K, p, none⟩ (.bool true) B.T (Ne.symm ha.kt))).cell hp
  simpa using this
theorem rem_body (N : Nat) (M : Mt) (km : Nat) (capm : Array Value) (B : RemB) (S SJ : Nat -> Prop) (J : World -> Prop) (hN : N <= 30) (ha : B.Apart) (hK : S B.K) (hT : S B.T)
    (hJ : Keeps J SJ) (hJh : Has J SJ) (hJK : ¬ SJ B.K) (hJT : ¬ SJ B.T) (hen : ∀ args w, (callFunc km args).run Tryz.prog w = .ok (.enter km args) w) (i j : Nat) (hij : i <= j) (hj : j <= N)
    (hin : Ans km capm (M i j) (λ w => J w /\ Rem N M (.func (.func km) #[] capm) B w) S i j) :
    Ans 123 (remCap B) (M i j) (λ w => J w /\ Rem N M (.func (.func km) #[] capm) B w) S i j := by
  intro w hw
  obtain ⟨hJw, hR⟩ := hw
  obtain ⟨h1, h2, h3, h4, kn, mt, h5, h6, h7⟩ := id hR
  have c1 := cell_of_one h1
  have c2 := cell_of_one h2
  have c3 := cell_of_one h3
  have c4 := cell_of_one h4
  have hpl := place_lt (N := N) (i := i) (j := j) (by omega) hj
  have hle := place_le hN
  have c5 := h5.cell hpl
  have c6 := h6.cell hpl
  obtain ⟨p, hp⟩ : ∃ p, p = i * (N + 1) + j := ⟨_, rfl⟩
  obtain ⟨q, hq⟩ : ∃ q, q = (N + 1) * (N + 1) := ⟨_, rfl⟩
  obtain ⟨m, hm⟩ : ∃ m, m = N + 1 := ⟨_, rfl⟩
  obtain ⟨t, ht⟩ : ∃ t, t = i * (N + 1) := ⟨_, rfl⟩
  have hm1 : wrap64 ((i : Int) * (m : Int)) = (t : Int) := by
    rw [hm, ht, <- Int.natCast_mul]
    unfold wrap64
    have : i * (N + 1) <= 1000 := by omega
    omega
  have hm2 : wrap64 ((t : Int) + (j : Int)) = (p : Int) := by
    unfold wrap64
    omega
  rw [<- hp] at hpl c5 c6
  rw [<- hq] at hpl c2 c4 hle
  rw [<- hm] at c1
  have HP := Lib.hid hp
  have HM := Lib.hid (λ w1 (h : Rem N M (.func (.func km) #[] capm) B w1) v => h.mid ha v p q hpl hq)
  have HPUT := Lib.hid (λ w1 (h : Rem N M (.func (.func km) #[] capm) B w1) => h.put ha (Nat.le_trans hij hj) hj)
  rw [<- hp] at HPUT
  have HF := Lib.hid (λ w1 (h : Rem N M (.func (.func km) #[] capm) B w1) => h.facts p q m hpl hq hm)
  have HC := Lib.hid (λ w' (hb : Below w.heap.size w w') => (hin w' ⟨hJ w w' hJw (λ g hg => hb.block g (hJh w hJw g hg)), hR.same (λ g hg => hb.block g (hR.lt hg))⟩).mono (λ e w1 ⟨he, h1, h2⟩ => (⟨he, h1, (⟨h2.os.trans hb.os, h2.tape.trans hb.tape, h2.output.trans hb.output, Nat.le_trans hb.size h2.size, λ g hg hs => (h2.block g (Nat.lt_of_lt_of_le hg hb.size) hs).trans (hb.block g hg)⟩ : Chg S w w1)⟩ : _ /\ (J w1 /\ Rem N M (.func (.func km) #[] capm) B w1) /\ _)))
  have HJ := Lib.hid (λ w1 (h : J w1) (a b : Addr) (u v : Value) (ha : ¬ SJ a.block) (hb : ¬ SJ b.block) => hJ w1 ((w1.setCell a u).setCell b v) h (λ g hg => (Below.heap_setCell _ _ _ g (λ e => hb (e ▸ hg))).trans (Below.heap_setCell _ _ _ g (λ e => ha (e ▸ hg)))))
  have h8 := h7 i j (Nat.le_trans hij hj) hj
  rw [<- hp] at h8
  unfold remCap
  cases hkn : kn p with
  | true =>
    rw [hkn] at c5 h8
    rw [h8 rfl] at c6
    have HR := Lib.hid hR
    have HJW := Lib.hid hJw
    clear hp hq hm ht hin hR h1 h2 h3 h4 hJw h5 h6 h7 h8 hkn hJ hJh
    go_enter Tryz.func123, Tryz.ntmps123
    go_wp2_with fail
    go_ret
    exact ⟨rfl, ⟨HJW.out, HR.out⟩, Chg.refl _ _⟩
  | false =>
    rw [hkn] at c5
    clear hp hq hm ht hin hR h1 h2 h3 h4 hJw h5 h6 h7 h8 hkn hJ hJh
    go_enter Tryz.func123, Tryz.ntmps123
    go_wp2_with fail
    go_region_with (go_at_fn km; refine (HC.out _ (by first | exact Below.refl _ _ | exact (Below.refl _ _).drew)).mono ?_; rintro e w1 ⟨rfl, ⟨hJ1, hR1⟩, hc1⟩; obtain ⟨d1, d2, d3, d4, f5, f6, a1, b1, d5, d6⟩ := HF.out _ hR1)
    all_goals
      obtain ⟨m1, m2, ⟨a2, m3⟩, m4, m5⟩ := HM.out _ hR1 (M i j)
      have HE := Lib.hid (show (J ((w1.setCell ⟨B.T, p, none⟩ (.bool (M i j))).setCell ⟨B.K, p, none⟩ (.bool true)) /\ Rem N M (.func (.func km) #[] capm) B ((w1.setCell ⟨B.T, p, none⟩ (.bool (M i j))).setCell ⟨B.K, p, none⟩ (.bool true))) /\ Chg S w ((w1.setCell ⟨B.T, p, none⟩ (.bool (M i j))).setCell ⟨B.K, p, none⟩ (.bool true)) from ⟨⟨HJ.out w1 hJ1 _ _ _ _ hJT hJK, HPUT.out _ hR1⟩, (hc1.set (a := ⟨B.T, p, none⟩) hT _).set (a := ⟨B.K, p, none⟩) hK _⟩)
      clear hJ1 hR1 hc1 c1 c2 c3 c4 c5 c6 d1 d2 d3 d4 d5 d6 f5 f6
      go_wp2_with fail
      go_ret
      exact ⟨rfl, HE.out⟩
end Go.Proofs.YtiijlpmdnokjfaaGreatDoor
namespace Go.Proofs.YtiijlpmdnokjfaaGreatDoor
open Go.RowKit
theorem remembered_any (N : Nat) (M : Mt) (km : Nat) (capm : Array Value) (w : World) (hN : N <= 30) :
    Calls Tryz.prog 105 #[.func (.func km) #[] capm, .int .i64 (N : Int)] w λ e w' => ∃ B : RemB, e = .returned (.func (.func 123) #[] (remCap B)) /\
      B.Apart /\ (∀ g, B.All g -> w.heap.size <= g) /\ Rem N M (.func (.func km) #[] capm) B w' /\ Below w.heap.size w w' := by
  have hle := place_le hN
  obtain ⟨q, hq⟩ : ∃ q, q = (N + 1) * (N + 1) := ⟨_, rfl⟩
  obtain ⟨m, hm⟩ : ∃ m, m = N + 1 := ⟨_, rfl⟩
  have hadd : wrap64 ((N : Int) + 1) = (m : Int) := by unfold wrap64; omega
  have hmul : wrap64 ((m : Int) * (m : Int)) = (q : Int) := by
    rw [hm, hq, <- Int.natCast_mul]
    unfold wrap64
    omega
  rw [<- hq] at hle
  have hmk : ∀ w1 : World, (Instr.makeSlice 28 (.int .i64 (q : Int)) (.int .i64 (q : Int))).run Tryz.prog w1 = .ok (.slice (some ⟨w1.heap.size, 0, none⟩) q q) (w1.alloc (.cells ((List.range q).map λ _ => Value.bool false).toArray 4)) := λ w1 => by
    obtain ⟨i, hi, hi1, hi2, hi3⟩ : ∃ i : TypeInfo, Tryz.prog.info? 4 = some i /\ i.zero = some (.bool false) /\ i.size = 1 /\ i.bytes = 1 := ⟨(Tryz.prog.info? 4).get!, by kernel_rfl, by kernel_rfl, by kernel_rfl, by kernel_rfl⟩
    have h := run_make (P := Tryz.prog) w1 28 4 i (.bool false) Tryz.underlying28 hi hi1 .i64 .i64 (q : Int) (q : Int) (by omega) (Int.le_refl _) (by rw [hi3]; omega) (by omega)
    rw [h, hi2, Int.toNat_natCast, made_row (.bool false) q rfl]
  have HQ := Lib.hid hq
  have HM := Lib.hid hm
  clear hq hm hN
  go_enter Tryz.func105, Tryz.ntmps105
  go_wp2_with fail
  go_ret
  refine ⟨⟨w.heap.size + 1, w.heap.size + 3, w.heap.size, w.heap.size + 5, w.heap.size + 2, w.heap.size + 4⟩, rfl, ⟨by simp, ⟨by simp, by simp, by simp, by simp⟩, ⟨by simp, by simp, by simp, by simp⟩⟩, λ g hg => ?_, ?_, ?_⟩
  . rcases hg with h | h | h | h | h | h <;> (simp only at h; omega)
  . have hL : ∀ (v : World) (o : Obj), (v.alloc o).heap[v.heap.size]? = some o := λ v o => by
      show (v.heap.push o)[v.heap.size]? = _
      simp
    have hO : ∀ (v : World) (o : Obj) (k : Nat), k < v.heap.size -> (v.alloc o).heap[k]? = v.heap[k]? := λ v o k h => Below.heap_alloc v o k h
    obtain ⟨w1, hw1⟩ : ∃ w1, w1 = w.alloc (.cells #[.func (.func km) #[] capm] 53) := ⟨_, rfl⟩
    obtain ⟨w2, hw2⟩ : ∃ w2, w2 = w1.alloc (.cells #[.int .i64 (m : Int)] 3) := ⟨_, rfl⟩
    obtain ⟨w3, hw3⟩ : ∃ w3, w3 = w2.alloc (.cells ((List.range q).map λ _ => Value.bool false).toArray 4) := ⟨_, rfl⟩
    obtain ⟨w4, hw4⟩ : ∃ w4, w4 = w3.alloc (.cells #[.slice (some ⟨w.heap.size + 1 + 1, 0, none⟩) q q] 28) := ⟨_, rfl⟩
    obtain ⟨w5, hw5⟩ : ∃ w5, w5 = w4.alloc (.cells ((List.range q).map λ _ => Value.bool false).toArray 4) := ⟨_, rfl⟩
    obtain ⟨w6, hw6⟩ : ∃ w6, w6 = w5.alloc (.cells #[.slice (some ⟨w.heap.size + 1 + 1 + 1 + 1, 0, none⟩) q q] 28) := ⟨_, rfl⟩
    have z1 : w1.heap.size = w.heap.size + 1 := by rw [hw1]; simp
    have z2 : w2.heap.size = w.heap.size + 2 := by rw [hw2]; simp [z1]
    have z3 : w3.heap.size = w.heap.size + 3 := by rw [hw3]; simp [z2]
    have z4 : w4.heap.size = w.heap.size + 4 := by rw [hw4]; simp [z3]
    have z5 : w5.heap.size = w.heap.size + 5 := by rw [hw5]; simp [z4]
    rw [<- hw1, <- hw2, <- hw3, <- hw4, <- hw5, <- hw6]
    have o2 : ∀ k, k < w.heap.size + 1 -> w2.heap[k]? = w1.heap[k]? := λ k h => by rw [hw2]; exact hO _ _ _ (by omega)
    have o3 : ∀ k, k < w.heap.size + 2 -> w3.heap[k]? = w2.heap[k]? := λ k h => by rw [hw3]; exact hO _ _ _ (by omega)
    have o4 : ∀ k, k < w.heap.size + 3 -> w4.heap[k]? = w3.heap[k]? := λ k h => by rw [hw4]; exact hO _ _ _ (by omega)
    have o5 : ∀ k, k < w.heap.size + 4 -> w5.heap[k]? = w4.heap[k]? := λ k h => by rw [hw5]; exact hO _ _ _ (by omega)
    have o6 : ∀ k, k < w.heap.size + 5 -> w6.heap[k]? = w5.heap[k]? := λ k h => by rw [hw6]; exact hO _ _ _ (by omega)
    have n1 : w1.heap[w.heap.size]? = some (.cells #[.func (.func km) #[] capm] 53) := by rw [hw1]; exact hL _ _
    have n2 : w2.heap[w.heap.size + 1]? = some (.cells #[.int .i64 (m : Int)] 3) := by rw [hw2, <- z1]; exact hL _ _
    have n3 : w3.heap[w.heap.size + 2]? = some (.cells ((List.range q).map λ _ => Value.bool false).toArray 4) := by rw [hw3, <- z2]; exact hL _ _
    have n4 : w4.heap[w.heap.size + 3]? = some (.cells #[.slice (some ⟨w.heap.size + 1 + 1, 0, none⟩) q q] 28) := by rw [hw4, <- z3]; exact hL _ _
    have n5 : w5.heap[w.heap.size + 4]? = some (.cells ((List.range q).map λ _ => Value.bool false).toArray 4) := by rw [hw5, <- z4]; exact hL _ _
    have n6 : w6.heap[w.heap.size + 5]? = some (.cells #[.slice (some ⟨w.heap.size + 1 + 1 + 1 + 1, 0, none⟩) q q] 28) := by rw [hw6, <- z5]; exact hL _ _
    have eq := HQ.out
    have em := HM.out
    refine ⟨?_, ?_, ?_, ?_, λ _ => false, λ _ => false, ?_, ?_, λ i j _ _ h => by simp at h⟩
    . show w6.heap[w.heap.size + 1]? = _
      rw [o6 _ (by omega), o5 _ (by omega), o4 _ (by omega), o3 _ (by omega), n2, em]
    . show w6.heap[w.heap.size + 3]? = _
      rw [o6 _ (by omega), o5 _ (by omega), n4, eq]
    . show w6.heap[w.heap.size]? = _
      rw [o6 _ (by omega), o5 _ (by omega), o4 _ (by omega), o3 _ (by omega), o2 _ (by omega), n1]
    . show w6.heap[w.heap.size + 5]? = _
      rw [n6, eq]
    . show w6.heap[w.heap.size + 2]? = _
      rw [o6 _ (by omega), o5 _ (by omega), o4 _ (by omega), n3, eq]
    . show w6.heap[w.heap.size + 4]? = _
      rw [o6 _ (by omega), n5, eq]
  . exact ((((((Below.refl _ _).alloc (Nat.le_refl _) _).alloc (by simp) _).alloc (by simp; omega) _).alloc (by simp; omega) _).alloc (by simp; omega) _).alloc (by simp; omega) _
end Go.Proofs.YtiijlpmdnokjfaaGreatDoor
namespace Go.Proofs.YtiijlpmdnokjfaaGreatDoor
open Go.RowKit
def TwoV (k1 : Nat) (cap1 : Array Value) (k2 : Nat) (cap2 : Array Value) (bl br : Nat) (J1 J2 : World -> Prop) (w : World) : Prop :=
  w.heap[bl]? = some (.cells #[.func (.func k1) #[] cap1] 53 (0, 0)) /\ w.heap[br]? = some (.cells #[.func (.func k2) #[] cap2] 53 (0, 0)) /\ J1 w /\ J2 w
def OneV (k1 : Nat) (cap1 : Array Value) (bl : Nat) (J1 : World -> Prop) (w : World) : Prop := w.heap[bl]? = some (.cells #[.func (.func k1) #[] cap1] 53 (0, 0)) /\ J1 w
theorem Chg.was {S : Nat -> Prop} {w w' : World} (h : Chg S w w') {g : Nat} {o : Obj} (hg : w.heap[g]? = some o) (hn : ¬ S g) : w'.heap[g]? = some o := (h.block g (lt_of_block hg) hn).trans hg
theorem Mat.past {N : Nat} {M : Mt} {k : Nat} {cap : Array Value} {J : World -> Prop} {S S' : Nat -> Prop} (m : Mat N M k cap J S) {w w' : World} (h : J w) (hc : Chg S' w w') (hd : ∀ g, S g -> ¬ S' g) : J w' :=
  m.keeps w w' h λ g hg => hc.block g (m.has w h g hg) (hd g hg)
section
variable {N : Nat} {p q : Mt} {k1 k2 : Nat} {cap1 cap2 : Array Value} {J1 J2 : World -> Prop} {S1 S2 : Nat -> Prop} {bl br : Nat}
theorem two_left (m1 : Mat N p k1 cap1 J1 S1) (m2 : Mat N q k2 cap2 J2 S2) (hd : ∀ g, S1 g -> ¬ S2 g) (h1 : ¬ S1 bl) (h2 : ¬ S1 br) {w0 : World} {i j : Nat} (hij : i <= j) (hj : j <= N) {w : World} (hw : TwoV k1 cap1 k2 cap2 bl br J1 J2 w) (hc : Chg (λ g => S1 g \/ S2 g) w0 w) :
    Calls Tryz.prog k1 (#[.int .i64 (i : Int), .int .i64 (j : Int)] ++ cap1) w λ e w' => e = .returned (.bool (p i j)) /\ TwoV k1 cap1 k2 cap2 bl br J1 J2 w' /\ Chg (λ g => S1 g \/ S2 g) w0 w' :=
  (m1.call i j hij hj w hw.2.2.1).mono λ _ _ ⟨he, hJ, hch⟩ => ⟨he, ⟨hch.was hw.1 h1, hch.was hw.2.1 h2, hJ, m2.past hw.2.2.2 hch λ g hg hg' => hd g hg' hg⟩, hc.trans (hch.more λ _ h => .inl h)⟩
theorem two_right (m1 : Mat N p k1 cap1 J1 S1) (m2 : Mat N q k2 cap2 J2 S2) (hd : ∀ g, S1 g -> ¬ S2 g) (h1 : ¬ S2 bl) (h2 : ¬ S2 br) {w0 : World} {i j : Nat} (hij : i <= j) (hj : j <= N) {w : World} (hw : TwoV k1 cap1 k2 cap2 bl br J1 J2 w) (hc : Chg (λ g => S1 g \/ S2 g) w0 w) :
    Calls Tryz.prog k2 (#[.int .i64 (i : Int), .int .i64 (j : Int)] ++ cap2) w λ e w' => e = .returned (.bool (q i j)) /\ TwoV k1 cap1 k2 cap2 bl br J1 J2 w' /\ Chg (λ g => S1 g \/ S2 g) w0 w' :=
  (m2.call i j hij hj w hw.2.2.2).mono λ _ _ ⟨he, hJ, hch⟩ => ⟨he, ⟨hch.was hw.1 h1, hch.was hw.2.1 h2, m1.past hw.2.2.1 hch hd, hJ⟩, hc.trans (hch.more λ _ h => .inr h)⟩
theorem cat_body (m1 : Mat N p k1 cap1 J1 S1) (m2 : Mat N q k2 cap2 J2 S2) (hd : ∀ g, S1 g -> ¬ S2 g) (h11 : ¬ S1 bl) (h12 : ¬ S1 br) (h21 : ¬ S2 bl) (h22 : ¬ S2 br) (hN : N <= 30) (i j : Nat) (hij : i <= j) (hj : j <= N) :
    Ans 106 #[.pointer (some ⟨bl, 0, none⟩), .pointer (some ⟨br, 0, none⟩)] (catM p q i j) (TwoV k1 cap1 k2 cap2 bl br J1 J2) (λ g => S1 g \/ S2 g) i j := by
  intro w hw
  have en1 := m1.enter
  have en2 := m2.enter
  have HL := Lib.hid (λ (i j : Nat) (hij : i <= j) (hj : j <= N) (wr : World) (h : TwoV k1 cap1 k2 cap2 bl br J1 J2 wr) (hc : Chg (λ g => S1 g \/ S2 g) w wr) => two_left m1 m2 hd h11 h12 hij hj h hc)
  have HR := Lib.hid (λ (i j : Nat) (hij : i <= j) (hj : j <= N) (wr : World) (h : TwoV k1 cap1 k2 cap2 bl br J1 J2 wr) (hc : Chg (λ g => S1 g \/ S2 g) w wr) => two_right m1 m2 hd h21 h22 hij hj h hc)
  have HW := Lib.hid hw
  clear m1 m2 hd h11 h12 h21 h22 hw
  go_enter Tryz.func106, Tryz.ntmps106
  go_wp2_with fail
  go_loopw [7] (λ m wr => ∃ x : Nat, m = .int .i64 x /\ i <= x /\ x <= j + 1 /\ (∀ y, i <= y -> y < x -> (p i y && q y j) = false) /\ TwoV k1 cap1 k2 cap2 bl br J1 J2 wr /\ Chg (λ g => S1 g \/ S2 g) w wr) (λ m _ => j + 1 - (intOf m).toNat)
  case atStart => exact ⟨i, rfl, Nat.le_refl _, by omega, λ y h1 h2 => by omega, HW.out, Chg.refl _ _⟩
  case round =>
    obtain ⟨x, rfl, hix, hxj, hno, hT, hc⟩ := hrel
    by_cases hx : x <= j
    . have c1 := cell_of_one hT.1
      have HNO := Lib.hid hno
      have HT := Lib.hid hT
      have HCC := Lib.hid hc
      clear hno hT hc
      cases hp : p i x with
      | false =>
        have HS : Hid (∀ y, i <= y -> y < x + 1 -> (p i y && q y j) = false) := Lib.hid (λ y h1 h2 => by
          by_cases hy : y = x
          . rw [hy, hp]; rfl
          . exact HNO.out y h1 (by omega))
        have HL' := Lib.hid (HL.out i x hix (by omega) wr HT.out HCC.out)
        rw [hp] at HL'
        clear hp
        go_wp2_with (go_at_fn k1; refine HL'.out.mono ?_; rintro e w1 ⟨rfl, hT1, hc1⟩)
        have HE := Lib.hid (And.intro hT1 hc1)
        clear hT1 hc1
        go_roundw
        case rel => exact ⟨x + 1, by go_num, by omega, by omega, HS.out, HE.out.1, HE.out.2⟩
        case measure => simp [intOf]; omega
      | true =>
        cases hq : q x j with
        | false =>
          have HS : Hid (∀ y, i <= y -> y < x + 1 -> (p i y && q y j) = false) := Lib.hid (λ y h1 h2 => by
            by_cases hy : y = x
            . rw [hy, hp, hq]; rfl
            . exact HNO.out y h1 (by omega))
          have HL' := Lib.hid (HL.out i x hix (by omega) wr HT.out HCC.out)
          have HR' := Lib.hid (HR.out x j hx hj)
          rw [hp] at HL'
          rw [hq] at HR'
          clear hp hq
          go_wp2_with (first | (go_at_fn k1; refine HL'.out.mono ?_; rintro e w1 ⟨rfl, hT1, hc1⟩; have c2 := cell_of_one hT1.2.1) | (go_at_fn k2; refine (HR'.out _ hT1 hc1).mono ?_; rintro e w2 ⟨rfl, hT2, hc2⟩))
          have HE := Lib.hid (And.intro hT2 hc2)
          clear hT1 hc1 hT2 hc2 c2
          go_roundw
          case rel => exact ⟨x + 1, by go_num, by omega, by omega, HS.out, HE.out.1, HE.out.2⟩
          case measure => simp [intOf]; omega
        | true =>
          have HB : Hid (catM p q i j = true) := Lib.hid (catM_yes hix hx (by rw [hp, hq]; rfl))
          have HL' := Lib.hid (HL.out i x hix (by omega) wr HT.out HCC.out)
          have HR' := Lib.hid (HR.out x j hx hj)
          rw [hp] at HL'
          rw [hq] at HR'
          clear hp hq
          go_wp2_with (first | (go_at_fn k1; refine HL'.out.mono ?_; rintro e w1 ⟨rfl, hT1, hc1⟩; have c2 := cell_of_one hT1.2.1) | (go_at_fn k2; refine (HR'.out _ hT1 hc1).mono ?_; rintro e w2 ⟨rfl, hT2, hc2⟩))
          have HE := Lib.hid (And.intro hT2 hc2)
          clear hT1 hc1 hT2 hc2 c2
          go_ret
          exact ⟨congrArg (λ b => Ending.returned (.bool b)) HB.out.symm, HE.out.1, HE.out.2⟩
    . have HB : Hid (catM p q i j = false) := Lib.hid (catM_no λ m h1 h2 => hno m h1 (by omega))
      have HT := Lib.hid hT
      have HCC := Lib.hid hc
      clear hno hT hc
      go_wp2_with fail
      go_ret
      exact ⟨congrArg (λ b => Ending.returned (.bool b)) HB.out.symm, HT.out, HCC.out⟩
def StJ (k1 : Nat) (cap1 : Array Value) (kr : Nat) (capr : Array Value) (bl br : Nat) (J1 : World -> Prop) (w : World) : Prop :=
  w.heap[bl]? = some (.cells #[.func (.func k1) #[] cap1] 53 (0, 0)) /\ w.heap[br]? = some (.cells #[.func (.func kr) #[] capr] 53 (0, 0)) /\ J1 w
theorem star_body {kr : Nat} {capr : Array Value} {R : World -> Prop} {S : Nat -> Prop} (m1 : Mat N p k1 cap1 J1 S1) (hS : ∀ g, S1 g -> S g) (h11 : ¬ S1 bl) (h12 : ¬ S1 br) (hR : ∀ w w', R w -> Chg S1 w w' -> R w')
    (enr : ∀ args w, (callFunc kr args).run Tryz.prog w = .ok (.enter kr args) w) (hN : N <= 30) (i j : Nat) (hij : i <= j) (hj : j <= N)
    (hrest : ∀ m, i < m -> m <= j -> Ans kr capr (starM p m j) (λ w => StJ k1 cap1 kr capr bl br J1 w /\ R w) S m j) :
    Ans 107 #[.pointer (some ⟨bl, 0, none⟩), .pointer (some ⟨br, 0, none⟩)] (starM p i j) (λ w => StJ k1 cap1 kr capr bl br J1 w /\ R w) S i j := by
  intro w hw
  have en1 := m1.enter
  by_cases he : i = j
  . subst he
    have HB := Lib.hid (starM_self p i)
    have HW := Lib.hid hw
    clear m1 hS h11 h12 hR enr hrest hw en1
    go_enter Tryz.func107, Tryz.ntmps107
    go_wp2_with fail
    go_ret
    exact ⟨congrArg (λ b => Ending.returned (.bool b)) HB.out.symm, HW.out, Chg.refl _ _⟩
  . have HL := Lib.hid (λ (x : Nat) (hix : i <= x) (hxj : x <= j) (wr : World) (h : StJ k1 cap1 kr capr bl br J1 wr /\ R wr) (hc : Chg S w wr) =>
      (m1.call i x hix (Nat.le_trans hxj hj) wr h.1.2.2).mono (λ e w' ⟨he, hJ, hch⟩ => (⟨he, ⟨⟨hch.was h.1.1 h11, hch.was h.1.2.1 h12, hJ⟩, hR wr w' h.2 hch⟩, hc.trans (hch.more hS)⟩ : e = Ending.returned (.bool (p i x)) /\ (StJ k1 cap1 kr capr bl br J1 w' /\ R w') /\ Chg S w w')))
    have HR := Lib.hid (λ (x : Nat) (hix : i < x) (hxj : x <= j) (wr : World) (h : StJ k1 cap1 kr capr bl br J1 wr /\ R wr) (hc : Chg S w wr) =>
      (hrest x hix hxj wr h).mono (λ e w' ⟨he, h', hch⟩ => (⟨he, h', hc.trans hch⟩ : e = Ending.returned (.bool (starM p x j)) /\ (StJ k1 cap1 kr capr bl br J1 w' /\ R w') /\ Chg S w w')))
    have HW := Lib.hid hw
    have HNE := Lib.hid he
    have hlt : i < j := by omega
    have e0 : ((i : Int) == (j : Int)) = false := by simp; omega
    clear m1 hS h11 h12 hR hrest hw he
    go_enter Tryz.func107, Tryz.ntmps107
    go_wp2_with fail
    go_loopw [7] (λ m wr => ∃ x : Nat, m = .int .i64 x /\ i < x /\ x <= j + 1 /\ (∀ y, i < y -> y < x -> (p i y && starM p y j) = false) /\ (StJ k1 cap1 kr capr bl br J1 wr /\ R wr) /\ Chg S w wr) (λ m _ => j + 1 - (intOf m).toNat)
    case atStart => exact ⟨i + 1, by go_num, Nat.lt_succ_self _, by omega, λ y h1 h2 => by omega, HW.out, Chg.refl _ _⟩
    case round =>
      obtain ⟨x, rfl, hix, hxj, hno, hT, hc⟩ := hrel
      by_cases hx : x <= j
      . have c1 := cell_of_one hT.1.1
        have HNO := Lib.hid hno
        have HT := Lib.hid hT
        have HCC := Lib.hid hc
        clear hno hT hc
        cases hp : p i x with
        | false =>
          have HS : Hid (∀ y, i < y -> y < x + 1 -> (p i y && starM p y j) = false) := Lib.hid (λ y h1 h2 => by
            by_cases hy : y = x
            . rw [hy, hp]; rfl
            . exact HNO.out y h1 (by omega))
          have HL' := Lib.hid (HL.out x (Nat.le_of_lt hix) hx wr HT.out HCC.out)
          rw [hp] at HL'
          clear hp
          go_wp2_with (go_at_fn k1; refine HL'.out.mono ?_; rintro e w1 ⟨rfl, hT1, hc1⟩)
          have HE := Lib.hid (And.intro hT1 hc1)
          clear hT1 hc1
          go_roundw
          case rel => exact ⟨x + 1, by go_num, by omega, by omega, HS.out, HE.out.1, HE.out.2⟩
          case measure => simp [intOf]; omega
        | true =>
          cases hq : starM p x j with
          | false =>
            have HS : Hid (∀ y, i < y -> y < x + 1 -> (p i y && starM p y j) = false) := Lib.hid (λ y h1 h2 => by
              by_cases hy : y = x
              . rw [hy, hp, hq]; rfl
              . exact HNO.out y h1 (by omega))
            have HL' := Lib.hid (HL.out x (Nat.le_of_lt hix) hx wr HT.out HCC.out)
            have HR' := Lib.hid (HR.out x hix hx)
            rw [hp] at HL'
            rw [hq] at HR'
            clear hp hq
            go_wp2_with (first | (go_at_fn k1; refine HL'.out.mono ?_; rintro e w1 ⟨rfl, hT1, hc1⟩; have c2 := cell_of_one hT1.1.2.1) | (go_at_fn kr; refine (HR'.out _ hT1 hc1).mono ?_; rintro e w2 ⟨rfl, hT2, hc2⟩))
            have HE := Lib.hid (And.intro hT2 hc2)
            clear hT1 hc1 hT2 hc2 c2
            go_roundw
            case rel => exact ⟨x + 1, by go_num, by omega, by omega, HS.out, HE.out.1, HE.out.2⟩
            case measure => simp [intOf]; omega
          | true =>
            have HB : Hid (starM p i j = true) := Lib.hid (starM_yes hix hp hq)
            have HL' := Lib.hid (HL.out x (Nat.le_of_lt hix) hx wr HT.out HCC.out)
            have HR' := Lib.hid (HR.out x hix hx)
            rw [hp] at HL'
            rw [hq] at HR'
            clear hp hq
            go_wp2_with (first | (go_at_fn k1; refine HL'.out.mono ?_; rintro e w1 ⟨rfl, hT1, hc1⟩; have c2 := cell_of_one hT1.1.2.1) | (go_at_fn kr; refine (HR'.out _ hT1 hc1).mono ?_; rintro e w2 ⟨rfl, hT2, hc2⟩))
            have HE := Lib.hid (And.intro hT2 hc2)
            clear hT1 hc1 hT2 hc2 c2
            go_ret
            exact ⟨congrArg (λ b => Ending.returned (.bool b)) HB.out.symm, HE.out.1, HE.out.2⟩
      . have HB : Hid (starM p i j = false) := Lib.hid (starM_no HNE.out λ m h1 h2 => hno m h1 (by omega))
        have HT := Lib.hid hT
        have HCC := Lib.hid hc
        clear hno hT hc
        go_wp2_with fail
        go_ret
        exact ⟨congrArg (λ b => Ending.returned (.bool b)) HB.out.symm, HT.out, HCC.out⟩
end
end Go.Proofs.YtiijlpmdnokjfaaGreatDoor
namespace Go.Proofs.YtiijlpmdnokjfaaGreatDoor
open Go.RowKit
theorem mat_still {N : Nat} {M : Mt} {k : Nat} (hen : ∀ args w, (callFunc k args).run Tryz.prog w = .ok (.enter k args) w)
    (h : ∀ i j, i <= j -> j <= N -> ∀ w, Calls Tryz.prog k #[.int .i64 (i : Int), .int .i64 (j : Int)] w λ e w' => e = .returned (.bool (M i j)) /\ w = w') : Mat N M k #[] (λ _ => True) (λ _ => False) :=
  ⟨hen, λ _ _ _ _ => trivial, λ _ _ _ h => h.elim, λ i j hij hj w _ => (h i j hij hj w).mono λ _ _ ⟨he, hw⟩ => ⟨he, trivial, hw ▸ Chg.refl _ _⟩⟩
theorem empty_call (i j : Nat) (w : World) : Calls Tryz.prog 56 #[.int .i64 (i : Int), .int .i64 (j : Int)] w λ e w' => e = .returned (.bool (decide (i = j))) /\ w = w' := by
  have HB : Hid (((i : Int) == (j : Int)) = decide (i = j)) := Lib.hid (by
    by_cases h : i = j
    . subst h; simp
    . simp [h]; omega)
  go_enter Tryz.func56, Tryz.ntmps56
  go_wp2_with fail
  go_ret
  exact ⟨congrArg (λ b => Ending.returned (.bool b)) HB.out, rfl⟩
theorem any_call (i j : Nat) (w : World) (hij : i <= j) (hj : j <= 30) : Calls Tryz.prog 58 #[.int .i64 (i : Int), .int .i64 (j : Int)] w λ e w' => e = .returned (.bool (decide (j = i + 1))) /\ w = w' := by
  have HB : Hid ((((j : Int) - (i : Int)) == 1) = decide (j = i + 1)) := Lib.hid (by
    by_cases h : j = i + 1
    . subst h; simp; omega
    . simp [h]; omega)
  go_enter Tryz.func58, Tryz.ntmps58
  go_wp2_with fail
  go_ret
  exact ⟨congrArg (λ b => Ending.returned (.bool b)) HB.out, rfl⟩
theorem none_call (i j : Nat) (w : World) : Calls Tryz.prog 64 #[.int .i64 (i : Int), .int .i64 (j : Int)] w λ e w' => e = .returned (.bool false) /\ w = w' := by
  go_enter Tryz.func64, Tryz.ntmps64
  go_wp2_with fail
  go_ret
  exact ⟨rfl, rfl⟩
theorem part_eq (s : ByteArray) (i j : Nat) : (s.extract i j).toList = part s.data.toList i j := by
  rw [ByteArray.toList_eq]
  simp only [ByteArray.data_extract, Array.toList_extract, List.extract_eq_take_drop]
  rfl
theorem letter_call (s l : ByteArray) (bs bf i j : Nat) (w : World) (hs : w.cell? ⟨bs, 0, none⟩ = some (.string s)) (hl : w.cell? ⟨bf, 0, none⟩ = some (.string l)) (hij : i <= j) (hj : j <= s.size) :
    Calls Tryz.prog 57 #[.int .i64 (i : Int), .int .i64 (j : Int), .pointer (some ⟨bs, 0, none⟩), .pointer (some ⟨bf, 0, none⟩)] w λ e w' => e = .returned (.bool (decide (part s.data.toList i j = l.data.toList))) /\ Below w.heap.size w w' := by
  go_enter Tryz.func57, Tryz.ntmps57
  go_wp2_with fail
  go_region_held3 (λ w' => w'.cell? ⟨bs, 0, none⟩ = some (.string s) /\ w'.cell? ⟨bf, 0, none⟩ = some (.string l)) (first | exact ⟨hs, hl⟩ | go_keep) (fail)
  go_wp2_with fail
  go_ret
  refine ⟨congrArg (λ b => Ending.returned (.bool b)) ?_, (Below.refl _ _).drew⟩
  rw [part_eq, ByteArray.toList_eq]
  by_cases h : part s.data.toList i j = l.data.toList
  . simp [h]
  . simp [h]
section
variable {N : Nat} {p q : Mt} {k1 k2 : Nat} {cap1 cap2 : Array Value} {J1 J2 : World -> Prop} {S1 S2 : Nat -> Prop} {bl br : Nat}
theorem or_body (m1 : Mat N p k1 cap1 J1 S1) (m2 : Mat N q k2 cap2 J2 S2) (hd : ∀ g, S1 g -> ¬ S2 g) (h11 : ¬ S1 bl) (h12 : ¬ S1 br) (h21 : ¬ S2 bl) (h22 : ¬ S2 br) (i j : Nat) (hij : i <= j) (hj : j <= N) :
    Ans 60 #[.pointer (some ⟨bl, 0, none⟩), .pointer (some ⟨br, 0, none⟩)] (p i j || q i j) (TwoV k1 cap1 k2 cap2 bl br J1 J2) (λ g => S1 g \/ S2 g) i j := by
  intro w hw
  have en1 := m1.enter
  have en2 := m2.enter
  have HL := Lib.hid (two_left m1 m2 hd h11 h12 hij hj hw (Chg.refl _ w))
  have HR := Lib.hid (λ wr h hc => two_right m1 m2 hd h21 h22 (w0 := w) (w := wr) hij hj h hc)
  have c1 := cell_of_one hw.1
  clear m1 m2 hd h11 h12 h21 h22 hw
  cases hp : p i j with
  | true =>
    rw [hp] at HL
    clear hp
    go_enter Tryz.func60, Tryz.ntmps60
    go_wp2_with (go_at_fn k1; refine HL.out.mono ?_; rintro e w1 ⟨rfl, hT1, hc1⟩)
    go_ret
    exact ⟨rfl, hT1, hc1⟩
  | false =>
    rw [hp] at HL
    clear hp
    go_enter Tryz.func60, Tryz.ntmps60
    go_wp2_with (first | (go_at_fn k1; refine HL.out.mono ?_; rintro e w1 ⟨rfl, hT1, hc1⟩; have c2 := cell_of_one hT1.2.1) | (go_at_fn k2; refine (HR.out _ hT1 hc1).mono ?_; rintro e w2 ⟨rfl, hT2, hc2⟩))
    go_ret
    exact ⟨by simp, hT2, hc2⟩
theorem and_body (m1 : Mat N p k1 cap1 J1 S1) (m2 : Mat N q k2 cap2 J2 S2) (hd : ∀ g, S1 g -> ¬ S2 g) (h11 : ¬ S1 bl) (h12 : ¬ S1 br) (h21 : ¬ S2 bl) (h22 : ¬ S2 br) (i j : Nat) (hij : i <= j) (hj : j <= N) :
    Ans 61 #[.pointer (some ⟨bl, 0, none⟩), .pointer (some ⟨br, 0, none⟩)] (p i j && q i j) (TwoV k1 cap1 k2 cap2 bl br J1 J2) (λ g => S1 g \/ S2 g) i j := by
  intro w hw
  have en1 := m1.enter
  have en2 := m2.enter
  have HL := Lib.hid (two_left m1 m2 hd h11 h12 hij hj hw (Chg.refl _ w))
  have HR := Lib.hid (λ wr h hc => two_right m1 m2 hd h21 h22 (w0 := w) (w := wr) hij hj h hc)
  have c1 := cell_of_one hw.1
  clear m1 m2 hd h11 h12 h21 h22 hw
  cases hp : p i j with
  | false =>
    rw [hp] at HL
    clear hp
    go_enter Tryz.func61, Tryz.ntmps61
    go_wp2_with (go_at_fn k1; refine HL.out.mono ?_; rintro e w1 ⟨rfl, hT1, hc1⟩)
    go_ret
    exact ⟨rfl, hT1, hc1⟩
  | true =>
    rw [hp] at HL
    clear hp
    go_enter Tryz.func61, Tryz.ntmps61
    go_wp2_with (first | (go_at_fn k1; refine HL.out.mono ?_; rintro e w1 ⟨rfl, hT1, hc1⟩; have c2 := cell_of_one hT1.2.1) | (go_at_fn k2; refine (HR.out _ hT1 hc1).mono ?_; rintro e w2 ⟨rfl, hT2, hc2⟩))
    go_ret
    exact ⟨by simp, hT2, hc2⟩
theorem not_body (m1 : Mat N p k1 cap1 J1 S1) (h11 : ¬ S1 bl) (i j : Nat) (hij : i <= j) (hj : j <= N) :
    Ans 63 #[.pointer (some ⟨bl, 0, none⟩)] (!p i j) (OneV k1 cap1 bl J1) S1 i j := by
  intro w hw
  have en1 := m1.enter
  have HL := Lib.hid ((m1.call i j hij hj w hw.2).mono λ _ _ ⟨he, hJ, hch⟩ => (⟨he, ⟨hch.was hw.1 h11, hJ⟩, hch⟩ : _ /\ OneV k1 cap1 bl J1 _ /\ _))
  have c1 := cell_of_one hw.1
  clear m1 h11 hw
  go_enter Tryz.func63, Tryz.ntmps63
  go_wp2_with (go_at_fn k1; refine HL.out.mono ?_; rintro e w1 ⟨rfl, hT1, hc1⟩)
  go_ret
  exact ⟨rfl, hT1, hc1⟩
end
end Go.Proofs.YtiijlpmdnokjfaaGreatDoor
namespace Go.Proofs.YtiijlpmdnokjfaaGreatDoor
open Go.RowKit
theorem Ans.more {k : Nat} {cap : Array Value} {b : Bool} {J : World -> Prop} {S S' : Nat -> Prop} {i j : Nat} (h : Ans k cap b J S i j) (hS : ∀ g, S g -> S' g) : Ans k cap b J S' i j :=
  λ w hw => (h w hw).mono λ _ _ ⟨he, hJ, hc⟩ => ⟨he, hJ, hc.more hS⟩
theorem Ans.with {k : Nat} {cap : Array Value} {b : Bool} {J R : World -> Prop} {S S' : Nat -> Prop} {i j : Nat} (h : Ans k cap b J S i j) (hR : ∀ w w', R w -> Chg S w w' -> R w') (hS : ∀ g, S g -> S' g) : Ans k cap b (λ w => J w /\ R w) S' i j :=
  λ w hw => (h w hw.1).mono λ _ _ ⟨he, hJ, hc⟩ => ⟨he, ⟨hJ, hR _ _ hw.2 hc⟩, hc.more hS⟩
theorem Rem.chg {N : Nat} {M : Mt} {fm : Value} {B : RemB} {S : Nat -> Prop} {w w' : World} (h : Rem N M fm B w) (hc : Chg S w w') (hd : ∀ g, B.All g -> ¬ S g) : Rem N M fm B w' :=
  h.same λ g hg => hc.block g (h.lt hg) (hd g hg)
theorem enters_rem : ∀ args w, (callFunc 123 args).run Tryz.prog w = .ok (.enter 123 args) w := enters_of Tryz.func123 (by kernel_rfl) rfl
theorem rem_mat {N : Nat} {M : Mt} {fm : Value} {B : RemB} {J : World -> Prop} {SJ : Nat -> Prop} (hJ : Keeps J SJ) (hJh : Has J SJ)
    (h : ∀ i j, i <= j -> j <= N -> Ans 123 (remCap B) (M i j) (λ w => J w /\ Rem N M fm B w) (λ g => SJ g \/ B.All g) i j) :
    Mat N M 123 (remCap B) (λ w => J w /\ Rem N M fm B w) (λ g => SJ g \/ B.All g) :=
  ⟨enters_rem, λ w w' hw hs => ⟨hJ w w' hw.1 λ g hg => hs g (.inl hg), hw.2.same λ g hg => hs g (.inr hg)⟩, λ w hw g hg => hg.elim (hJh w hw.1 g) λ h => hw.2.lt h, h⟩
section
variable {N : Nat} {p q : Mt} {k1 k2 : Nat} {cap1 cap2 : Array Value} {J1 J2 : World -> Prop} {S1 S2 : Nat -> Prop} {bl br : Nat}
theorem two_keeps (m1 : Mat N p k1 cap1 J1 S1) (m2 : Mat N q k2 cap2 J2 S2) : Keeps (TwoV k1 cap1 k2 cap2 bl br J1 J2) (λ g => g = bl \/ g = br \/ S1 g \/ S2 g) :=
  λ w w' hw hs => ⟨(hs _ (.inl rfl)).trans hw.1, (hs _ (.inr (.inl rfl))).trans hw.2.1, m1.keeps w w' hw.2.2.1 λ g hg => hs g (.inr (.inr (.inl hg))), m2.keeps w w' hw.2.2.2 λ g hg => hs g (.inr (.inr (.inr hg)))⟩
theorem two_has (m1 : Mat N p k1 cap1 J1 S1) (m2 : Mat N q k2 cap2 J2 S2) : Has (TwoV k1 cap1 k2 cap2 bl br J1 J2) (λ g => g = bl \/ g = br \/ S1 g \/ S2 g) := λ w hw g hg => by
  rcases hg with rfl | rfl | h | h
  . exact lt_of_block hw.1
  . exact lt_of_block hw.2.1
  . exact m1.has w hw.2.2.1 g h
  . exact m2.has w hw.2.2.2 g h
theorem two_mat {M : Mt} {k : Nat} {cap : Array Value} (m1 : Mat N p k1 cap1 J1 S1) (m2 : Mat N q k2 cap2 J2 S2) (hen : ∀ args w, (callFunc k args).run Tryz.prog w = .ok (.enter k args) w)
    (h : ∀ i j, i <= j -> j <= N -> Ans k cap (M i j) (TwoV k1 cap1 k2 cap2 bl br J1 J2) (λ g => S1 g \/ S2 g) i j) :
    Mat N M k cap (TwoV k1 cap1 k2 cap2 bl br J1 J2) (λ g => g = bl \/ g = br \/ S1 g \/ S2 g) :=
  ⟨hen, two_keeps m1 m2, two_has m1 m2, λ i j hij hj => (h i j hij hj).more λ _ h => .inr (.inr h)⟩
theorem one_mat {M : Mt} {k : Nat} {cap : Array Value} (m1 : Mat N p k1 cap1 J1 S1) (hen : ∀ args w, (callFunc k args).run Tryz.prog w = .ok (.enter k args) w)
    (h : ∀ i j, i <= j -> j <= N -> Ans k cap (M i j) (OneV k1 cap1 bl J1) S1 i j) : Mat N M k cap (OneV k1 cap1 bl J1) (λ g => g = bl \/ S1 g) :=
  ⟨hen, λ w w' hw hs => ⟨(hs _ (.inl rfl)).trans hw.1, m1.keeps w w' hw.2 λ g hg => hs g (.inr hg)⟩, λ w hw g hg => hg.elim (λ e => e ▸ lt_of_block hw.1) (m1.has w hw.2 g), λ i j hij hj => (h i j hij hj).more λ _ h => .inr h⟩
theorem enters_cat : ∀ args w, (callFunc 106 args).run Tryz.prog w = .ok (.enter 106 args) w := enters_of Tryz.func106 (by kernel_rfl) rfl
theorem enters_star : ∀ args w, (callFunc 107 args).run Tryz.prog w = .ok (.enter 107 args) w := enters_of Tryz.func107 (by kernel_rfl) rfl
def ptr2 (bl br : Nat) : Array Value := #[.pointer (some ⟨bl, 0, none⟩), .pointer (some ⟨br, 0, none⟩)]
theorem cat_mat {B : RemB} (m1 : Mat N p k1 cap1 J1 S1) (m2 : Mat N q k2 cap2 J2 S2) (hd : ∀ g, S1 g -> ¬ S2 g) (h11 : ¬ S1 bl) (h12 : ¬ S1 br) (h21 : ¬ S2 bl) (h22 : ¬ S2 br) (hN : N <= 30)
    (ha : B.Apart) (hB : ∀ g, B.All g -> ¬ (g = bl \/ g = br \/ S1 g \/ S2 g)) :
    Mat N (catM p q) 123 (remCap B) (λ w => TwoV k1 cap1 k2 cap2 bl br J1 J2 w /\ Rem N (catM p q) (.func (.func 106) #[] (ptr2 bl br)) B w) (λ g => (g = bl \/ g = br \/ S1 g \/ S2 g) \/ B.All g) := by
  refine rem_mat (two_keeps m1 m2) (two_has m1 m2) λ i j hij hj => ?_
  refine rem_body N (catM p q) 106 (ptr2 bl br) B _ _ _ hN ha (.inr (.inr (.inr (.inr (.inr (.inl rfl)))))) (.inr (.inr (.inr (.inr (.inr (.inr rfl)))))) (two_keeps m1 m2) (two_has m1 m2)
    (hB _ (.inr (.inr (.inr (.inr (.inl rfl)))))) (hB _ (.inr (.inr (.inr (.inr (.inr rfl)))))) enters_cat i j hij hj ?_
  exact (cat_body m1 m2 hd h11 h12 h21 h22 hN i j hij hj).with (λ w w' hR hc => hR.chg hc λ g hg h => hB g hg (.inr (.inr h))) λ _ h => .inl (.inr (.inr h))
theorem star_mat {B : RemB} (m1 : Mat N p k1 cap1 J1 S1) (h11 : ¬ S1 bl) (h12 : ¬ S1 br) (hN : N <= 30) (ha : B.Apart) (hB : ∀ g, B.All g -> ¬ (g = bl \/ g = br \/ S1 g)) :
    Mat N (starM p) 123 (remCap B) (λ w => StJ k1 cap1 123 (remCap B) bl br J1 w /\ Rem N (starM p) (.func (.func 107) #[] (ptr2 bl br)) B w) (λ g => (g = bl \/ g = br \/ S1 g) \/ B.All g) := by
  have hk : Keeps (StJ k1 cap1 123 (remCap B) bl br J1) (λ g => g = bl \/ g = br \/ S1 g) := λ w w' hw hs => ⟨(hs _ (.inl rfl)).trans hw.1, (hs _ (.inr (.inl rfl))).trans hw.2.1, m1.keeps w w' hw.2.2 λ g hg => hs g (.inr (.inr hg))⟩
  have hh : Has (StJ k1 cap1 123 (remCap B) bl br J1) (λ g => g = bl \/ g = br \/ S1 g) := λ w hw g hg => by
    rcases hg with rfl | rfl | h
    . exact lt_of_block hw.1
    . exact lt_of_block hw.2.1
    . exact m1.has w hw.2.2 g h
  refine rem_mat hk hh ?_
  suffices H : ∀ d i j, j - i <= d -> i <= j -> j <= N -> Ans 123 (remCap B) (starM p i j) (λ w => StJ k1 cap1 123 (remCap B) bl br J1 w /\ Rem N (starM p) (.func (.func 107) #[] (ptr2 bl br)) B w) (λ g => (g = bl \/ g = br \/ S1 g) \/ B.All g) i j from
    λ i j hij hj => H _ i j (Nat.le_refl _) hij hj
  intro d
  induction d with
  | zero =>
    intro i j hd hij hj
    refine rem_body N (starM p) 107 (ptr2 bl br) B _ _ _ hN ha (.inr (.inr (.inr (.inr (.inr (.inl rfl)))))) (.inr (.inr (.inr (.inr (.inr (.inr rfl)))))) hk hh
      (hB _ (.inr (.inr (.inr (.inr (.inl rfl)))))) (hB _ (.inr (.inr (.inr (.inr (.inr rfl)))))) enters_star i j hij hj ?_
    exact star_body m1 (λ _ h => .inl (.inr (.inr h))) h11 h12 (λ w w' hR hc => hR.chg hc λ g hg h => hB g hg (.inr (.inr h))) enters_rem hN i j hij hj λ m h1 h2 => by omega
  | succ d ih =>
    intro i j hd hij hj
    refine rem_body N (starM p) 107 (ptr2 bl br) B _ _ _ hN ha (.inr (.inr (.inr (.inr (.inr (.inl rfl)))))) (.inr (.inr (.inr (.inr (.inr (.inr rfl)))))) hk hh
      (hB _ (.inr (.inr (.inr (.inr (.inl rfl)))))) (hB _ (.inr (.inr (.inr (.inr (.inr rfl)))))) enters_star i j hij hj ?_
    exact star_body m1 (λ _ h => .inl (.inr (.inr h))) h11 h12 (λ w w' hR hc => hR.chg hc λ g hg h => hB g hg (.inr (.inr h))) enters_rem hN i j hij hj λ m h1 h2 => ih m j (by omega) h2 hj
end
end Go.Proofs.YtiijlpmdnokjfaaGreatDoor
namespace Go.Proofs.YtiijlpmdnokjfaaGreatDoor
open Go.RowKit
def MatFrom (N : Nat) (M : Mt) (T : Nat -> Prop) (w : World) (e : Ending) (w' : World) : Prop :=
  ∃ (k : Nat) (cap : Array Value) (J : World -> Prop) (S : Nat -> Prop), e = .returned (.func (.func k) #[] cap) /\ Mat N M k cap J S /\ J w' /\ (∀ g, S g -> T g \/ w.heap.size <= g) /\ Below w.heap.size w w'
theorem one_new (w : World) (v : Value) (t : TypeId) : (w.alloc (.cells #[v] t)).heap[w.heap.size]? = some (.cells #[v] t (0, 0)) := by
  show (w.heap.push _)[w.heap.size]? = _
  simp
theorem Mat.under {N : Nat} {M : Mt} {k : Nat} {cap : Array Value} {J : World -> Prop} {S : Nat -> Prop} (m : Mat N M k cap J S) {w w' : World} (h : J w) (hb : Below w.heap.size w w') : J w' := m.keeps w w' h λ g hg => hb.block g (m.has w h g hg)
section
variable {N : Nat} {p q : Mt} {k1 k2 : Nat} {cap1 cap2 : Array Value} {J1 J2 : World -> Prop} {S1 S2 : Nat -> Prop}
theorem catMatcher_any (m1 : Mat N p k1 cap1 J1 S1) (m2 : Mat N q k2 cap2 J2 S2) (hd : ∀ g, S1 g -> ¬ S2 g) (w : World) (h1 : J1 w) (h2 : J2 w) (hN : N <= 30) :
    Calls Tryz.prog 59 #[.func (.func k1) #[] cap1, .func (.func k2) #[] cap2, .int .i64 (N : Int)] w (MatFrom N (catM p q) (λ g => S1 g \/ S2 g) w) := by
  obtain ⟨W, hW⟩ : ∃ W, W = (w.alloc (.cells #[.func (.func k1) #[] cap1] 53)).alloc (.cells #[.func (.func k2) #[] cap2] 53) := ⟨_, rfl⟩
  have hz : W.heap.size = w.heap.size + 2 := by rw [hW]; simp
  have hbW : Below w.heap.size w W := by rw [hW]; exact ((Below.refl _ _).alloc (Nat.le_refl _) _).alloc (by simp) _
  have hbl : W.heap[w.heap.size]? = some (.cells #[.func (.func k1) #[] cap1] 53 (0, 0)) := by
    rw [hW, Below.heap_alloc _ _ _ (by simp)]
    exact one_new _ _ _
  have hbr : W.heap[w.heap.size + 1]? = some (.cells #[.func (.func k2) #[] cap2] 53 (0, 0)) := by
    rw [hW]
    have := one_new (w.alloc (.cells #[.func (.func k1) #[] cap1] 53)) (.func (.func k2) #[] cap2) 53
    simpa using this
  have l1 : ∀ g, S1 g -> g < w.heap.size := m1.has w h1
  have l2 : ∀ g, S2 g -> g < w.heap.size := m2.has w h2
  have HR := Lib.hid ((remembered_any N (catM p q) 106 (ptr2 w.heap.size (w.heap.size + 1)) W hN).mono (λ e w' ⟨B, he, ha, hB, hR, hb⟩ => (⟨remCap B, _, _, he,
    cat_mat (bl := w.heap.size) (br := w.heap.size + 1) m1 m2 hd (λ h => Nat.lt_irrefl _ (l1 _ h)) (λ h => by have := l1 _ h; omega) (λ h => Nat.lt_irrefl _ (l2 _ h)) (λ h => by have := l2 _ h; omega) hN ha (λ g hg h => by
      have hg1 := hB g hg
      rcases h with h | h | h | h
      . omega
      . omega
      . have := l1 _ h; omega
      . have := l2 _ h; omega),
    ⟨⟨(hb.block _ (by omega)).trans hbl, (hb.block _ (by omega)).trans hbr, m1.under h1 (hbW.trans (hb.mono hbW.size)), m2.under h2 (hbW.trans (hb.mono hbW.size))⟩, hR⟩,
    λ g hg => (by
      rcases hg with (h | h | h | h) | h
      . exact .inr (by omega)
      . exact .inr (by omega)
      . exact .inl (.inl h)
      . exact .inl (.inr h)
      . have := hB g h
        exact .inr (by omega)), hbW.trans (hb.mono hbW.size)⟩ : ∃ (cap : Array Value) (J : World -> Prop) (S : Nat -> Prop), e = Ending.returned (.func (.func 123) #[] cap) /\ Mat N (catM p q) 123 cap J S /\ J w' /\ (∀ g, S g -> (S1 g \/ S2 g) \/ w.heap.size <= g) /\ Below w.heap.size w w')))
  rw [hW] at HR
  unfold ptr2 at HR
  clear hW hz hbW hbl hbr l1 l2 m1 m2 hd h1 h2 hN
  go_enter Tryz.func59, Tryz.ntmps59
  go_wp2_with fail
  refine HR.out.mono ?_
  rintro e w' ⟨cap, J, S, rfl, hm, hJ, hS, hb⟩
  have HE := Lib.hid (And.intro hm (And.intro hJ (And.intro hS hb)))
  clear hm hJ hS hb
  go_wp2_with fail
  go_ret
  exact ⟨_, cap, J, S, rfl, HE.out.1, HE.out.2.1, HE.out.2.2.1, HE.out.2.2.2⟩
theorem starMatcher_any (m1 : Mat N p k1 cap1 J1 S1) (w : World) (h1 : J1 w) (hN : N <= 30) :
    Calls Tryz.prog 62 #[.func (.func k1) #[] cap1, .int .i64 (N : Int)] w (MatFrom N (starM p) S1 w) := by
  obtain ⟨W, hW⟩ : ∃ W, W = (w.alloc (.cells #[.func (.func k1) #[] cap1] 53)).alloc (.cells #[.nilFunc] 53) := ⟨_, rfl⟩
  have hz : W.heap.size = w.heap.size + 2 := by rw [hW]; simp
  have hbW : Below w.heap.size w W := by rw [hW]; exact ((Below.refl _ _).alloc (Nat.le_refl _) _).alloc (by simp) _
  have hbl : W.heap[w.heap.size]? = some (.cells #[.func (.func k1) #[] cap1] 53 (0, 0)) := by
    rw [hW, Below.heap_alloc _ _ _ (by simp)]
    exact one_new _ _ _
  have hbr : W.heap[w.heap.size + 1]? = some (.cells #[.nilFunc] 53 (0, 0)) := by
    rw [hW]
    have := one_new (w.alloc (.cells #[.func (.func k1) #[] cap1] 53)) .nilFunc 53
    simpa using this
  have l1 : ∀ g, S1 g -> g < w.heap.size := m1.has w h1
  have HR := Lib.hid ((remembered_any N (starM p) 107 (ptr2 w.heap.size (w.heap.size + 1)) W hN).mono (λ e w' ⟨B, he, ha, hB, hR, hb⟩ => (⟨remCap B, _, _, he, (hb.block _ (by omega)).trans hbr,
    star_mat (bl := w.heap.size) (br := w.heap.size + 1) m1 (λ h => Nat.lt_irrefl _ (l1 _ h)) (λ h => by have := l1 _ h; omega) hN ha (λ g hg h => by
      have hg1 := hB g hg
      rcases h with h | h | h
      . omega
      . omega
      . have := l1 _ h; omega),
    ⟨⟨(Below.heap_setCell _ _ _ _ (by simp)).trans ((hb.block _ (by omega)).trans hbl), one_setCell ((hb.block _ (by omega)).trans hbr), m1.under h1 ((hbW.trans (hb.mono hbW.size)).setCell (by simp) _)⟩, hR.same λ g hg => Below.heap_setCell _ _ _ _ (λ e => by have := hB g hg; simp at e; omega)⟩,
    λ g hg => (by
      rcases hg with (h | h | h) | h
      . exact .inr (by omega)
      . exact .inr (by omega)
      . exact .inl h
      . have := hB g h
        exact .inr (by omega)), (hbW.trans (hb.mono hbW.size)).setCell (by simp) _⟩ : ∃ (cap : Array Value) (J : World -> Prop) (S : Nat -> Prop), e = Ending.returned (.func (.func 123) #[] cap) /\ w'.heap[w.heap.size + 1]? = some (Obj.cells #[.nilFunc] 53 (0, 0)) /\ Mat N (starM p) 123 cap J S /\ J (w'.setCell ⟨w.heap.size + 1, 0, none⟩ (.func (.func 123) #[] cap)) /\ (∀ g, S g -> S1 g \/ w.heap.size <= g) /\ Below w.heap.size w (w'.setCell ⟨w.heap.size + 1, 0, none⟩ (.func (.func 123) #[] cap)))))
  rw [hW] at HR
  unfold ptr2 at HR
  clear hW hz hbW hbl hbr l1 m1 h1 hN
  go_enter Tryz.func62, Tryz.ntmps62
  go_wp2_with fail
  refine HR.out.mono ?_
  rintro e w' ⟨cap, J, S, rfl, hbr, hm, hJ, hS, hb⟩
  have c1 := cell_of_one hbr
  have f1 := free_of_one hbr
  have HE := Lib.hid (And.intro hm (And.intro hJ (And.intro hS hb)))
  clear hm hJ hS hb hbr
  go_wp2_with fail
  go_ret
  exact ⟨_, cap, J, S, rfl, HE.out.1, HE.out.2.1, HE.out.2.2.1, HE.out.2.2.2⟩
end
end Go.Proofs.YtiijlpmdnokjfaaGreatDoor
