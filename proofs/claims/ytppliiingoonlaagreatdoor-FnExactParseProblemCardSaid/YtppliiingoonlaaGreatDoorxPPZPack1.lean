/- Texts of one proof. -/
import Derived.Test.YtppliiingoonlaaGreatDoorRows
import Derived.ProofKit
import Derived.OpenShut
import Derived.LaidMore
import Derived.Lay
import Derived.Stop.Joined
import Derived.Stop.LaidErr
import Derived.Below
import Derived.ChangeSame
import Derived.Lib.LaidTab
import Derived.Carry
import Derived.Lib.ItoaNum
import Derived.Lib.ItoaLen
import Derived.Lib.ItoaMem
import Derived.Lib.AtoiTie
import Derived.WalkKit
import Derived.WalkSpells
import Derived.WalkLawsBesides
import Derived.Laws.IdiomStrings
import Derived.Lib.Hide
import Derived.Test.YtppliiingoonlaaGreatDoorShelf
import Derived.Test.YtppliiingoonlaaGreatDoorShelfA
import Derived.Recover
import Derived.Defers
import Derived.Lib.AtoiErrMem
import Derived.Lib.AtoiAllCases
import Derived.LaidSub
import Derived.Deep.Slices
import Derived.Outline
import Derived.KernelRfl
import Derived.Lib.Bytealg
import Derived.Deep.QuietTactic
import Derived.BigQuiet
set_option maxRecDepth 100000
set_option maxHeartbeats 20000000
namespace Go.Proofs.YtppliiingoonlaaGreatDoor
open Go.ChangeShapes Go.WideShapes Go.ChangeAt Go.RowKit
theorem own : ownKnob Tryz.prog.godebug = none := by kernel_rfl
end Go.Proofs.YtppliiingoonlaaGreatDoor
namespace Go.Proofs.YtppliiingoonlaaGreatDoor
open Go.ChangeShapes Go.WideShapes Go.ChangeAt Go.RowKit
theorem trodAll_below {H : Type} {enc : TypeId × Value -> H} {P : Program} (hl : laidOutB P = true) {W W' : World} (hb : Below W.heap.size W W') :
    ∀ {ts : List TypeId} {vs : List Value} {ds : List (DataW H)} {ps : List MemPlace}, (∀ t ∈ ts, P.readableRec t = true /\ t < P.types.size) -> (∀ x ∈ ps, x.block < W.heap.size) ->
      DataW.TrodAll enc P W 0 (λ _ => true) true ts vs ds ps -> DataW.TrodAll enc P W' 0 (λ b => decide (b < W.heap.size)) true ts vs ds ps
  | [], [], [], _, _, _, h => h
  | t :: _, _ :: _, _ :: _, _, hT, hlt, ⟨p, q, h1, h2, e⟩ =>
    ⟨p, q, Below.trod hl (hT t (List.mem_cons.2 (Or.inl rfl))).1 (hT t (List.mem_cons.2 (Or.inl rfl))).2 h1 hb (λ x hx => hlt x (by rw [e]; exact List.mem_append_left _ hx)),
      trodAll_below hl hb (λ u hu => hT u (List.mem_cons.2 (Or.inr hu))) (λ x hx => hlt x (by rw [e]; exact List.mem_append_right _ hx)) h2, e⟩
theorem laidOut : laidOutB Tryz.prog = true := by kernel_rfl
theorem law_end {H : Type} {enc : TypeId × Value -> H} {f : Func} {s : ChangeSpec} {W W' : World} {args : Array Value} {ds : List (DataW H)} {p : List MemPlace}
    (hA : DataW.TrodAll enc Tryz.prog W 0 (λ _ => true) true f.params.toList args.toList ds p) (hz : W.noneFrozen p) (hv : s.vars = []) (ht : f.resultTypes = #[4])
    (hts : (f.params.toList.all λ t => Tryz.prog.readableRec t && decide (t < Tryz.prog.types.size)) = true)
    (hs : s.fn H ds = { results := [.lit (.bool true)], args := ds })
    (hb : Below W.heap.size W W') : s.post enc Tryz.prog f false true false false W args (.bool true) W' := by
  have hW : DataW.Whole enc Tryz.prog f.params.toList s.vars false W args.toList ds [] p := ⟨p, [], hA, by rw [hv]; rfl, by simp, hz, λ h => by cases h⟩
  have hlt : ∀ x ∈ p, x.block < W.heap.size := λ x hx => hW.lt x hx
  have hT : ∀ t ∈ f.params.toList, Tryz.prog.readableRec t = true /\ t < Tryz.prog.types.size := λ t ht => by
    have := List.all_eq_true.1 hts t ht
    simpa using this
  have hargs := trodAll_below laidOut hb hT hlt hA
  have hds : s.fn H (ds ++ []) = { results := [.lit (.bool true)], args := ds } := by rw [List.append_nil]; exact hs
  refine ⟨ds, [], p, [], p, [], hW, ?_, ?_, ?_, World.keptBut_mono (λ x hx => ⟨hx, Or.inr (by simpa using hx)⟩) (hb.frame (· ∈ p)), λ h => by cases h⟩
  . rw [hds, ht]
    exact trodAll_mk1 (shut_bool Tryz.underlying4 true)
  . rw [hds]
    exact hargs
  . rw [hds, hv]
    rfl
end Go.Proofs.YtppliiingoonlaaGreatDoor
namespace Go.Proofs.YtppliiingoonlaaGreatDoor
open Go.Lib
theorem decFrom_append : ∀ (l1 l2 : List UInt8) (acc : Nat), decFrom acc (l1 ++ l2) = (decFrom acc l1).bind λ m => decFrom m l2
  | [], l2, acc => by simp [decFrom]
  | b :: r, l2, acc => by
    simp only [List.cons_append, decFrom]
    cases digitVal b with
    | none => rfl
    | some d => exact decFrom_append r l2 _
theorem digitVal_digit (u : Nat) (h : u < 10) : digitVal (UInt8.ofNat (48 + u)) = some u := by
  have e : (UInt8.ofNat (48 + u)).toNat = 48 + u := by rw [UInt8.toNat_ofNat']; omega
  unfold digitVal
  rw [e, if_pos (by omega)]
  congr 1
  omega
theorem decFrom_dec (u : Nat) : decFrom 0 (decDigits u) = some u := by
  induction u using Nat.strongRecOn with
  | _ u ih =>
    by_cases h : u < 10
    . rw [decDigits_one h]
      simp only [decFrom, digitVal_digit u h]
      congr 1
      omega
    . rw [decDigits, dif_neg h, decFrom_append, ih (u / 10) (by omega)]
      simp only [Option.bind_some, decFrom, digitVal_digit (u % 10) (by omega)]
      congr 1
      omega
theorem decDigits_ne (u : Nat) : decDigits u ≠ [] := by
  intro h
  have := congrArg List.length h
  rw [decDigits_length] at this
  have := nDigits_pos u
  simp at *
  omega
theorem digit_of_mem (u : Nat) : ∀ b ∈ decDigits u, 48 <= b.toNat /\ b.toNat <= 57 := by
  intro b hb
  obtain ⟨k, hk⟩ := List.getElem?_of_mem hb
  obtain ⟨d, hd⟩ := digit_of_decFrom _ _ _ (decFrom_dec u) k b hk
  unfold digitVal at hd
  split at hd
  . assumption
  . cases hd
theorem nDigits_le : ∀ (k u : Nat), u < 10 ^ (k + 1) -> nDigits u <= k + 1
  | 0, u, h => by rw [nDigits_small (by simpa using h)]; exact Nat.le_refl _
  | k + 1, u, h => by
    by_cases hs : u < 10
    . rw [nDigits_small hs]; omega
    . rw [nDigits_big hs]
      have := nDigits_le k (u / 10) (by rw [Nat.pow_succ] at h; omega)
      omega
theorem head_dec (u : Nat) (b : UInt8) (r : List UInt8) (h : b :: r = decDigits u) : b ≠ 45 /\ b ≠ 43 := by
  have := digit_of_mem u b (by rw [<- h]; simp)
  constructor <;> (intro e; subst e; revert this; decide)
theorem itoa_parts (n : Int) : (n < 0 /\ itoa n = 45 :: decDigits n.natAbs) \/ (0 <= n /\ itoa n = decDigits n.natAbs) := by
  unfold itoa
  by_cases h : n < 0
  . exact .inl ⟨h, by rw [if_pos h]⟩
  . refine .inr ⟨by omega, ?_⟩
    rw [if_neg h, show n.toNat = n.natAbs by omega]
theorem decNat_dec (u : Nat) : decNat (decDigits u) = some u := by
  unfold decNat
  rw [if_neg (by simpa using decDigits_ne u)]
  exact decFrom_dec u
theorem atoi_itoa (n : Int) : atoi (itoa n) = some n := by
  rcases itoa_parts n with ⟨h, e⟩ | ⟨h, e⟩
  . rw [e]
    simp only [atoi, beq_self_eq_true, if_true]
    rw [decNat_dec]
    simp
    omega
  . rw [e]
    cases hd : decDigits n.natAbs with
    | nil => exact absurd hd (decDigits_ne _)
    | cons b r =>
      obtain ⟨h1, h2⟩ := head_dec n.natAbs b r hd.symm
      have hn := decNat_dec n.natAbs
      rw [hd] at hn
      simp only [atoi]
      rw [if_neg (by simpa using h1), if_neg (by simpa using h2), hn]
      simp
      omega
theorem itoa_inj {a b : Int} (h : itoa a = itoa b) : a = b := by
  have := atoi_itoa a
  rw [h, atoi_itoa b] at this
  exact (Option.some.inj this).symm
theorem itoa_short (n : Int) (h0 : -1000000000000 < n) (h1 : n < 1000000000000) : (itoa n).length <= 13 := by
  have h := nDigits_le 11 n.natAbs (by omega)
  rcases itoa_parts n with ⟨_, e⟩ | ⟨_, e⟩ <;> rw [e] <;> simp [decDigits_length] <;> omega
theorem atoiAll_itoa (n : Int) (h0 : -1000000000000 < n) (h1 : n < 1000000000000) : atoiAll (itoa n) = .ok n := by
  rw [atoiAll_short _ (by have := itoa_short n h0 h1; omega), atoi_itoa]
  rfl
def Reading (most : Nat) (l : List UInt8) (v : Int) (ok : Bool) : Prop :=
  (ok = true /\ l = itoa v /\ v.natAbs < 10 ^ most) \/ (ok = false /\ v = 0 /\ ∀ n : Int, n.natAbs < 10 ^ most -> l ≠ itoa n)
theorem Reading.size_neg {most : Nat} {t : List UInt8} (hm : 1 <= most) (h : t.length < 1 \/ most < t.length) : Reading most (45 :: t) 0 false := by
  refine .inr ⟨rfl, rfl, λ n hn e => ?_⟩
  obtain ⟨k, rfl⟩ : ∃ k, most = k + 1 := ⟨most - 1, by omega⟩
  have h1 := nDigits_le k n.natAbs hn
  have h2 := nDigits_pos n.natAbs
  rcases itoa_parts n with ⟨_, e'⟩ | ⟨_, e'⟩
  . rw [e'] at e
    have := congrArg List.length e
    simp [decDigits_length] at this
    omega
  . rw [e'] at e
    exact (head_dec _ _ _ e).1 rfl
theorem Reading.size_pos {most : Nat} {t : List UInt8} (hm : 1 <= most) (hh : t.head? ≠ some 45) (h : t.length < 1 \/ most < t.length) : Reading most t 0 false := by
  refine .inr ⟨rfl, rfl, λ n hn e => ?_⟩
  obtain ⟨k, rfl⟩ : ∃ k, most = k + 1 := ⟨most - 1, by omega⟩
  have h1 := nDigits_le k n.natAbs hn
  have h2 := nDigits_pos n.natAbs
  rcases itoa_parts n with ⟨_, e'⟩ | ⟨_, e'⟩
  . rw [e'] at e
    rw [e] at hh
    simp at hh
  . rw [e'] at e
    have := congrArg List.length e
    simp [decDigits_length] at this
    omega
theorem Reading.byte_neg {most : Nat} {t : List UInt8} {b : UInt8} (hb : b ∈ t) (hd : ¬ (48 <= b.toNat /\ b.toNat <= 57)) : Reading most (45 :: t) 0 false := by
  refine .inr ⟨rfl, rfl, λ n _ e => ?_⟩
  rcases itoa_parts n with ⟨_, e'⟩ | ⟨_, e'⟩
  . rw [e'] at e
    rw [(List.cons.inj e).2] at hb
    exact hd (digit_of_mem _ b hb)
  . rw [e'] at e
    exact (head_dec _ _ _ e).1 rfl
theorem Reading.byte_pos {most : Nat} {t : List UInt8} {b : UInt8} (hh : t.head? ≠ some 45) (hb : b ∈ t) (hd : ¬ (48 <= b.toNat /\ b.toNat <= 57)) : Reading most t 0 false := by
  refine .inr ⟨rfl, rfl, λ n _ e => ?_⟩
  rcases itoa_parts n with ⟨_, e'⟩ | ⟨_, e'⟩
  . rw [e'] at e
    rw [e] at hh
    simp at hh
  . rw [e'] at e
    rw [e] at hb
    exact hd (digit_of_mem _ b hb)
theorem Reading.num_neg {most m : Nat} {t : List UInt8} (hl : t.length <= most) (h : decFrom 0 t = some m) (ok : Bool) (hok : ok = decide (itoa (-(m : Int)) = 45 :: t)) : Reading most (45 :: t) (if ok then -(m : Int) else 0) ok := by
  have hlt := decFrom_lt _ _ _ h
  simp only [Nat.zero_add, Nat.one_mul] at hlt
  have hp : 10 ^ t.length <= 10 ^ most := Nat.pow_le_pow_right (by omega) hl
  cases ok with
  | true => exact .inl ⟨rfl, (of_decide_eq_true hok.symm).symm, by simp; omega⟩
  | false =>
    refine .inr ⟨rfl, rfl, λ n _ e => of_decide_eq_false hok.symm ?_⟩
    rcases itoa_parts n with ⟨hn, e'⟩ | ⟨_, e'⟩
    . rw [e'] at e
      rw [(List.cons.inj e).2, decFrom_dec] at h
      have : -(m : Int) = n := by have := Option.some.inj h; omega
      rw [this, e', (List.cons.inj e).2]
    . rw [e'] at e
      exact absurd rfl (head_dec _ _ _ e).1
theorem Reading.num_pos {most m : Nat} {t : List UInt8} (hh : t.head? ≠ some 45) (hl : t.length <= most) (h : decFrom 0 t = some m) (ok : Bool) (hok : ok = decide (itoa (m : Int) = t)) : Reading most t (if ok then (m : Int) else 0) ok := by
  have hlt := decFrom_lt _ _ _ h
  simp only [Nat.zero_add, Nat.one_mul] at hlt
  have hp : 10 ^ t.length <= 10 ^ most := Nat.pow_le_pow_right (by omega) hl
  cases ok with
  | true => exact .inl ⟨rfl, (of_decide_eq_true hok.symm).symm, by simp; omega⟩
  | false =>
    refine .inr ⟨rfl, rfl, λ n _ e => of_decide_eq_false hok.symm ?_⟩
    rcases itoa_parts n with ⟨_, e'⟩ | ⟨hn, e'⟩
    . rw [e'] at e
      rw [e] at hh
      simp at hh
    . rw [e'] at e
      rw [e, decFrom_dec] at h
      have : (m : Int) = n := by have := Option.some.inj h; omega
      rw [this, e', e]
end Go.Proofs.YtppliiingoonlaaGreatDoor
namespace Go.Proofs.YtppliiingoonlaaGreatDoor
open Go.RowKit
def dgt (k : Nat) : UInt8 := UInt8.ofNat (48 + k % 10)
theorem dec_step (k : Nat) (L D : List UInt8) (hk : 0 < k) (h : Lib.decDigits k ++ L = D) :
    (k / 10 = 0 -> dgt k :: L = D) /\ (k / 10 ≠ 0 -> Lib.decDigits (k / 10) ++ dgt k :: L = D) := by
  rw [Lib.decDigits] at h
  constructor
  . intro h0
    rw [dif_pos (by omega)] at h
    unfold dgt
    rw [show k % 10 = k by omega]
    simpa using h
  . intro h0
    rw [dif_neg (by omega)] at h
    unfold dgt
    simpa using h
def FmtRel (k0 : Nat) (k : Nat) (L : List UInt8) : Prop := (k = 0 -> L = Lib.decDigits k0) /\ (k ≠ 0 -> Lib.decDigits k ++ L = Lib.decDigits k0)
theorem FmtRel.start {k : Nat} (h : 0 < k) : FmtRel k k [] := ⟨λ e => by omega, λ _ => by simp⟩
theorem FmtRel.step {k0 k : Nat} {L : List UInt8} (h : FmtRel k0 k L) (hk : 0 < k) : FmtRel k0 (k / 10) (dgt k :: L) :=
  dec_step k L _ hk (h.2 (by omega))
theorem FmtRel.len {n k : Nat} {L : List UInt8} (h : FmtRel n k L) (h1 : n <= 9223372036854775807) : L.length <= 21 := by
  have hn := Lib.itoa_length_le (n : Int) (by omega) (by omega)
  rw [Lib.itoa_nonneg] at hn
  by_cases hk : k = 0
  . rw [h.1 hk]; exact hn
  . have := congrArg List.length (h.2 hk)
    simp at this
    omega
theorem str_cons (b : UInt8) (L : List UInt8) : (⟨#[b]⟩ : ByteArray) ++ ⟨L.toArray⟩ = ⟨(b :: L).toArray⟩ := by
  rw [ByteArray.mk_append_mk]; simp
theorem conv_one (w : World) (z : Int) (b : UInt8) (hz : z = (b.toNat : Int)) :
    (convert 22 9 (.slice (some ⟨w.heap.size, 0, none⟩) 1 1)).run Tryz.prog (w.alloc (.cells #[.int .u8 z] 5)) = .ok (.string ⟨#[b]⟩) (w.alloc (.cells #[.int .u8 z] 5)) := by
  subst hz
  exact run_convert_bytes_back (P := Tryz.prog) (w.alloc (.cells #[.int .u8 (b.toNat : Int)] 5)) 22 9 5 ⟨w.heap.size, 0, none⟩ 1 [b] Tryz.underlying22 Tryz.underlying5 Tryz.underlying9 (by
    intro j hj
    have : j = 0 := by simp at hj; omega
    subst this
    simp [Addr.add])
theorem digit_cell (k : Nat) : (48 + (k : Int) % 10) = ((dgt k).toNat : Int) := by
  unfold dgt
  rw [UInt8.toNat_ofNat']
  omega
theorem specFormat_pos (n : Nat) (w : World) (h0 : 0 < n) (h1 : n <= 9223372036854775807) :
    Calls Tryz.prog 58 #[.int .i64 n] w λ e w' => e = .returned (.string ⟨(Lib.decDigits n).toArray⟩) /\ Below w.heap.size w w' := by
  have e1 : ((n : Int) == 0) = false := by simp; omega
  have e2 : decide ((n : Int) < 0) = false := by simp
  go_enter Tryz.func58, Tryz.ntmps58
  go_wp2
  go_loopw [0, 4] (λ m o wr => ∃ (k : Nat) (L : List UInt8), m = .int .i64 k /\ o = .string ⟨L.toArray⟩ /\ k <= n /\ FmtRel n k L /\ Below w.heap.size w wr) (λ m _ _ => (intOf m).toNat)
  case atStart => exact ⟨n, [], rfl, rfl, Nat.le_refl _, FmtRel.start h0, Below.refl _ _⟩
  case round =>
    obtain ⟨k, L, rfl, rfl, hkn, hrel, hb⟩ := hrel
    have hlen := hrel.len h1
    by_cases hk : 0 < k
    . have e3 : ((k : Int) != 0) = true := by simp; omega
      have e4 : decide ((k : Int) % 10 < 0) = false := by simp; omega
      have hcv := conv_one wr (48 + (k : Int) % 10) (dgt k) (digit_cell k)
      go_wp2
      all_goals
        go_roundw
        case rel => exact ⟨k / 10, dgt k :: L, by go_num, congrArg Value.string (str_cons _ _), by omega, hrel.step hk, hb.alloc hb.size _⟩
        case measure => simp [intOf]; omega
    . obtain rfl : k = 0 := by omega
      go_wp2
      go_ret
      exact ⟨by rw [<- hrel.1 rfl]; rfl, hb⟩
theorem tmod_neg (k : Nat) : (-(k : Int)).tmod 10 = -((k % 10 : Nat) : Int) := by
  rw [Int.neg_tmod, Int.tmod_eq_emod_of_nonneg (by omega)]; omega
theorem tdiv_neg (k : Nat) : (-(k : Int)).tdiv 10 = -((k / 10 : Nat) : Int) := by
  rw [Int.neg_tdiv, Int.tdiv_eq_ediv_of_nonneg (by omega)]; omega
theorem specFormat_neg (n : Nat) (w : World) (h0 : 0 < n) (h1 : n <= 9223372036854775808) :
    Calls Tryz.prog 58 #[.int .i64 (-(n : Int))] w λ e w' => e = .returned (.string ⟨(45 :: Lib.decDigits n).toArray⟩) /\ Below w.heap.size w w' := by
  have e1 : (-(n : Int) == 0) = false := by simp; omega
  have e2 : decide (-(n : Int) < 0) = true := by simp; omega
  go_enter Tryz.func58, Tryz.ntmps58
  go_wp2
  go_loopw [0, 4, 5] (λ m o _ wr => ∃ (k : Nat) (L : List UInt8), m = .int .i64 (-(k : Int)) /\ o = .string ⟨L.toArray⟩ /\ k <= n /\ FmtRel n k L /\ Below w.heap.size w wr) (λ m _ _ _ => (-(intOf m)).toNat)
  case atStart => exact ⟨n, [], rfl, rfl, Nat.le_refl _, FmtRel.start h0, Below.refl _ _⟩
  case round =>
    obtain ⟨k, L, rfl, rfl, hkn, hrel, hb⟩ := hrel
    have hlen : L.length <= 21 := by
      by_cases hb : n <= 9223372036854775807
      . exact hrel.len hb
      . obtain rfl : n = 9223372036854775808 := by omega
        have hd : (Lib.decDigits 9223372036854775808).length <= 21 := by
          have := Lib.itoa_length_le (-9223372036854775808) (by omega) (by omega)
          have e : Lib.itoa (-9223372036854775808) = 45 :: Lib.decDigits 9223372036854775808 := Lib.itoa_neg 9223372036854775808 (by omega)
          rw [e] at this
          simp at this
          omega
        by_cases hk : k = 0
        . rw [hrel.1 hk]; exact hd
        . have := congrArg List.length (hrel.2 hk)
          simp at this
          omega
    by_cases hk : 0 < k
    . have e3 : (-(k : Int) != 0) = true := by simp; omega
      have hcv := conv_one wr (48 + (k : Int) % 10) (dgt k) (digit_cell k)
      have e5 := tmod_neg k
      have e6 := tdiv_neg k
      by_cases hd : 0 < k % 10
      . have e7 : decide (-((k % 10 : Nat) : Int) < 0) = true := by simp; omega
        go_wp2
        all_goals
          go_roundw
          case rel => exact ⟨k / 10, dgt k :: L, by go_num, congrArg Value.string (str_cons _ _), by omega, hrel.step hk, hb.alloc hb.size _⟩
          case measure => simp [intOf]; omega
      . have e8 := conv_one wr 48 (dgt k) (by rw [<- digit_cell]; omega)
        have e9 : (-(k : Int)).tmod 10 = 0 := by rw [tmod_neg]; omega
        clear hcv e5
        go_wp2
        all_goals
          go_roundw
          case rel => exact ⟨k / 10, dgt k :: L, by go_num, congrArg Value.string (str_cons _ _), by omega, hrel.step hk, hb.alloc hb.size _⟩
          case measure => simp [intOf]; omega
    . obtain rfl : k = 0 := by omega
      go_wp2
      go_ret
      exact ⟨by rw [<- hrel.1 rfl]; exact congrArg (λ s => Ending.returned (Value.string s)) (str_cons _ _), hb⟩
theorem specFmtInt_any (n : Int) (w : World) (h0 : -9223372036854775808 <= n) (h1 : n <= 9223372036854775807) :
    Calls Tryz.prog 58 #[.int .i64 n] w λ e w' => e = .returned (.string ⟨(Lib.itoa n).toArray⟩) /\ Below w.heap.size w w' := by
  by_cases hz : n = 0
  . subst hz
    go_enter Tryz.func58, Tryz.ntmps58
    go_wp2
    go_ret
    have e : Lib.itoa 0 = [48] := (Lib.itoa_nonneg 0).trans (Lib.decDigits_one (by omega))
    exact ⟨by rw [e]; rfl, Below.refl _ _⟩
  . by_cases hp : 0 < n
    . obtain ⟨k, rfl⟩ : ∃ k : Nat, n = k := ⟨n.toNat, by omega⟩
      have := specFormat_pos k w (by omega) (by omega)
      rw [<- Lib.itoa_nonneg] at this
      exact this
    . obtain ⟨k, rfl⟩ : ∃ k : Nat, n = -(k : Int) := ⟨n.natAbs, by omega⟩
      have := specFormat_neg k w (by omega) (by omega)
      rw [<- Lib.itoa_neg k (by omega)] at this
      exact this
#print axioms specFmtInt_any
def ReadPost (most : Nat) (l : List UInt8) (w : World) (e : Ending) (w' : World) : Prop := ∃ (v : Int) (ok : Bool), e = .returned (.tuple #[.int .i64 v, .bool ok]) /\ Reading most l v ok /\ Below w.heap.size w w'
theorem read_neg (s t : ByteArray) (most : Nat) (w : World) (hs : s.size <= maxLen) (hm : 1 <= most) (hm2 : most <= 12) (h0 : 0 < s.size) (hb : s[0] = 45)
    (ht : s.extract 1 s.size = t) (htz : s.size - 1 = t.size) (hl : s.data.toList = 45 :: t.data.toList) :
    Calls Tryz.prog 215 #[.string s, .int .i64 most] w (ReadPost most s.data.toList w) := by
  unfold maxLen at hs
  have HL := Lib.hid hl
  clear hl
  have htl : t.data.toList.length = t.size := by simp
  have HTL := Lib.hid htl
  clear htl
  have hts : t.size <= 9223372036854775807 := by omega
  by_cases hz1 : t.size < 1
  . have e1 : decide ((t.size : Int) < 1) = true := by simp; omega
    go_enter Tryz.func215, Tryz.ntmps215
    go_wp2
    go_ret2
    exact ⟨0, false, rfl, by rw [HL.out]; exact Reading.size_neg hm (.inl (by rw [HTL.out]; exact hz1)), Below.refl _ _⟩
  . have e1 : decide ((t.size : Int) < 1) = false := by simp; omega
    by_cases hz2 : most < t.size
    . have e2 : decide (most < t.size) = true := by simp; omega
      go_enter Tryz.func215, Tryz.ntmps215
      go_wp2
      go_ret2
      exact ⟨0, false, rfl, by rw [HL.out]; exact Reading.size_neg hm (.inr (by rw [HTL.out]; exact hz2)), Below.refl _ _⟩
    . have e2 : decide (most < t.size) = false := by simp; omega
      go_enter Tryz.func215, Tryz.ntmps215
      go_wp2
      go_loop [8, 9] (λ n i => ∃ k m : Nat, k <= t.size /\ i = .int .i64 k /\ n = .int .i64 m /\ Lib.decFrom 0 (t.data.toList.take k) = some m) (λ _ i => t.size - (intOf i).toNat)
      case atStart => exact ⟨0, 0, Nat.zero_le _, rfl, rfl, rfl⟩
      case round =>
        obtain ⟨k, m, hk, rfl, rfl, hd⟩ := hrel
        have hmb : m < 100000000000000000 := Lib.decFrom_take_lt hd (by omega)
        have HD := Lib.hid hd
        clear hd
        by_cases hlt : k < t.size
        . have hbt : t.data.toList[k]? = some t[k] := by simp [hlt]; rfl
          have HB := Lib.hid hbt
          clear hbt
          by_cases hdig : 48 <= (t[k].toNat : Int) /\ (t[k].toNat : Int) <= 57
          . obtain ⟨hd1, hd2⟩ := hdig
            go_wp2
            all_goals
              go_round
              case rel => exact ⟨k + 1, m * 10 + (t[k].toNat - 48), by omega, by go_num, by go_num, Lib.decFrom_take _ _ _ _ _ _ HD.out HB.out (by unfold Lib.digitVal; rw [if_pos (by omega)])⟩
              case measure => simp [intOf]; omega
          . have fin : Reading most (45 :: t.data.toList) 0 false := Reading.byte_neg (b := t[k]) (List.mem_of_getElem? HB.out) (by omega)
            have FIN := Lib.hid fin
            clear fin
            by_cases hlo : (t[k].toNat : Int) < 48
            . have e3 : decide ((t[k].toNat : Int) < 48) = true := by simpa using hlo
              go_wp2
              go_ret2
              exact ⟨0, false, rfl, by rw [HL.out]; exact FIN.out, Below.refl _ _⟩
            . have hhi : 57 < (t[k].toNat : Int) := by omega
              go_wp2
              go_ret2
              exact ⟨0, false, rfl, by rw [HL.out]; exact FIN.out, Below.refl _ _⟩
        . obtain rfl : k = t.size := by omega
          have hnum := Reading.num_neg (most := most) (t := t.data.toList) (m := m) (by rw [HTL.out]; omega) (by have := HD.out; rwa [List.take_of_length_le (by rw [HTL.out]; exact Nat.le_refl _)] at this)
          have NUM := Lib.hid hnum
          clear hnum
          cases hq : (Lib.itoa (-(m : Int)) == s.toList) with
          | true =>
            have HQ := Lib.hid (show true = decide (Lib.itoa (-(m : Int)) = 45 :: t.data.toList) by rw [<- HL.out, <- ByteArray.toList_eq]; exact (decide_eq_true (by simpa using hq)).symm)
            go_wp2_with (go_at_call 58; refine (specFmtInt_any _ _ (by omega) (by omega)).mono ?_; rintro e w1 ⟨rfl, hb1⟩)
            go_ret2
            exact ⟨-(m : Int), true, rfl, by rw [HL.out]; exact NUM.out true HQ.out, hb1⟩
          | false =>
            have HQ := Lib.hid (show false = decide (Lib.itoa (-(m : Int)) = 45 :: t.data.toList) by rw [<- HL.out, <- ByteArray.toList_eq]; exact (decide_eq_false (by simpa using hq)).symm)
            go_wp2_with (go_at_call 58; refine (specFmtInt_any _ _ (by omega) (by omega)).mono ?_; rintro e w1 ⟨rfl, hb1⟩)
            go_ret2
            exact ⟨0, false, rfl, by rw [HL.out]; exact NUM.out false HQ.out, hb1⟩
theorem read_pos (t : ByteArray) (most : Nat) (w : World) (hs : t.size <= maxLen) (hm : 1 <= most) (hm2 : most <= 12) (h0 : 0 < t.size) (hb : (((t[0].toNat : Int)) == 45) = false)
    (hl : t.data.toList.head? ≠ some 45) :
    Calls Tryz.prog 215 #[.string t, .int .i64 most] w (ReadPost most t.data.toList w) := by
  unfold maxLen at hs
  have HL := Lib.hid hl
  clear hl
  have htl : t.data.toList.length = t.size := by simp
  have HTL := Lib.hid htl
  clear htl
  have hts : t.size <= 9223372036854775807 := by omega
  by_cases hz1 : t.size < 1
  . have e1 : decide ((t.size : Int) < 1) = true := by simp; omega
    go_enter Tryz.func215, Tryz.ntmps215
    go_wp2
    go_ret2
    exact ⟨0, false, rfl, Reading.size_pos hm HL.out (.inl (by rw [HTL.out]; exact hz1)), Below.refl _ _⟩
  . have e1 : decide ((t.size : Int) < 1) = false := by simp; omega
    by_cases hz2 : most < t.size
    . have e2 : decide (most < t.size) = true := by simp; omega
      go_enter Tryz.func215, Tryz.ntmps215
      go_wp2
      go_ret2
      exact ⟨0, false, rfl, Reading.size_pos hm HL.out (.inr (by rw [HTL.out]; exact hz2)), Below.refl _ _⟩
    . have e2 : decide (most < t.size) = false := by simp; omega
      go_enter Tryz.func215, Tryz.ntmps215
      go_wp2
      go_loop [8, 9] (λ n i => ∃ k m : Nat, k <= t.size /\ i = .int .i64 k /\ n = .int .i64 m /\ Lib.decFrom 0 (t.data.toList.take k) = some m) (λ _ i => t.size - (intOf i).toNat)
      case atStart => exact ⟨0, 0, Nat.zero_le _, rfl, rfl, rfl⟩
      case round =>
        obtain ⟨k, m, hk, rfl, rfl, hd⟩ := hrel
        have hmb : m < 100000000000000000 := Lib.decFrom_take_lt hd (by omega)
        have HD := Lib.hid hd
        clear hd
        by_cases hlt : k < t.size
        . have hbt : t.data.toList[k]? = some t[k] := by simp [hlt]; rfl
          have HB := Lib.hid hbt
          clear hbt
          by_cases hdig : 48 <= (t[k].toNat : Int) /\ (t[k].toNat : Int) <= 57
          . obtain ⟨hd1, hd2⟩ := hdig
            go_wp2
            all_goals
              go_round
              case rel => exact ⟨k + 1, m * 10 + (t[k].toNat - 48), by omega, by go_num, by go_num, Lib.decFrom_take _ _ _ _ _ _ HD.out HB.out (by unfold Lib.digitVal; rw [if_pos (by omega)])⟩
              case measure => simp [intOf]; omega
          . have fin : Reading most (t.data.toList) 0 false := Reading.byte_pos HL.out (b := t[k]) (List.mem_of_getElem? HB.out) (by omega)
            have FIN := Lib.hid fin
            clear fin
            by_cases hlo : (t[k].toNat : Int) < 48
            . have e3 : decide ((t[k].toNat : Int) < 48) = true := by simpa using hlo
              go_wp2
              go_ret2
              exact ⟨0, false, rfl, FIN.out, Below.refl _ _⟩
            . have hhi : 57 < (t[k].toNat : Int) := by omega
              go_wp2
              go_ret2
              exact ⟨0, false, rfl, FIN.out, Below.refl _ _⟩
        . obtain rfl : k = t.size := by omega
          have hnum := Reading.num_pos (most := most) (t := t.data.toList) (m := m) HL.out (by rw [HTL.out]; omega) (by have := HD.out; rwa [List.take_of_length_le (by rw [HTL.out]; exact Nat.le_refl _)] at this)
          have NUM := Lib.hid hnum
          clear hnum
          cases hq : (Lib.itoa ((m : Int)) == t.toList) with
          | true =>
            have HQ := Lib.hid (show true = decide (Lib.itoa ((m : Int)) = t.data.toList) by rw [<- ByteArray.toList_eq]; exact (decide_eq_true (by simpa using hq)).symm)
            go_wp2_with (go_at_call 58; refine (specFmtInt_any _ _ (by omega) (by omega)).mono ?_; rintro e w1 ⟨rfl, hb1⟩)
            go_ret2
            exact ⟨(m : Int), true, rfl, NUM.out true HQ.out, hb1⟩
          | false =>
            have HQ := Lib.hid (show false = decide (Lib.itoa ((m : Int)) = t.data.toList) by rw [<- ByteArray.toList_eq]; exact (decide_eq_false (by simpa using hq)).symm)
            go_wp2_with (go_at_call 58; refine (specFmtInt_any _ _ (by omega) (by omega)).mono ?_; rintro e w1 ⟨rfl, hb1⟩)
            go_ret2
            exact ⟨0, false, rfl, NUM.out false HQ.out, hb1⟩
theorem extract_tail (s : ByteArray) (h0 : 0 < s.size) (hb : s[0] = 45) : s.data.toList = 45 :: (s.extract 1 s.size).data.toList := by
  have e : (s.extract 1 s.size).data.toList = s.data.toList.drop 1 := by
    simp
    exact List.take_of_length_le (by simp)
  rw [e]
  have hlen : 0 < s.data.toList.length := by simpa using h0
  have h1 : s.data.toList[0] = 45 := by rw [<- hb]; simp; rfl
  rw [<- h1]
  exact (List.drop_eq_getElem_cons hlen)
theorem read_any (s : ByteArray) (most : Nat) (w : World) (hs : s.size <= maxLen) (hm : 1 <= most) (hm2 : most <= 12) :
    Calls Tryz.prog 215 #[.string s, .int .i64 most] w (ReadPost most s.data.toList w) := by
  by_cases h0 : 0 < s.size
  . by_cases hb : s[0] = 45
    . exact read_neg s (s.extract 1 s.size) most w hs hm hm2 h0 hb rfl (by simp [ByteArray.size_extract]) (extract_tail s h0 hb)
    . refine read_pos s most w hs hm hm2 h0 ?_ ?_
      . simp only [beq_eq_false_iff_ne, ne_eq]
        intro e
        apply hb
        apply UInt8.toNat_inj.1
        have : ((45 : UInt8).toNat : Int) = 45 := by decide
        omega
      . intro e
        apply hb
        have hlen : 0 < s.data.toList.length := by simpa using h0
        have h1 : s.data.toList[0] = s[0] := by simp; rfl
        rw [<- h1]
        rw [List.head?_eq_getElem?, List.getElem?_eq_getElem hlen] at e
        exact Option.some.inj e
  . have htl : s.data.toList.length = s.size := by simp
    have e0 : s.data.toList = [] := List.eq_nil_of_length_eq_zero (htl.trans (by omega))
    clear htl
    have es : s = ⟨#[]⟩ := by
      cases s with | mk d => simp at e0; subst e0; rfl
    have fin : Reading most s.data.toList 0 false := by rw [e0]; exact Reading.size_pos hm (by simp) (.inl (by simp))
    have FIN := Lib.hid fin
    clear fin
    subst es
    clear e0 h0 hs
    go_enter Tryz.func215, Tryz.ntmps215
    go_wp2
    go_ret2
    exact ⟨0, false, rfl, FIN.out, Below.refl _ _⟩
def InRange (lo hi : Int) (l : List UInt8) (v : Int) (ok : Bool) : Prop :=
  (ok = true /\ l = Lib.itoa v /\ lo <= v /\ v <= hi) \/ (ok = false /\ v = 0 /\ ∀ n : Int, lo <= n -> n <= hi -> l ≠ Lib.itoa n)
theorem InRange.unique {lo hi : Int} {l : List UInt8} {v v' : Int} {ok ok' : Bool} (h : InRange lo hi l v ok) (h' : InRange lo hi l v' ok') : v = v' /\ ok = ok' := by
  rcases h with ⟨rfl, rfl, a, b⟩ | ⟨rfl, rfl, hn⟩ <;> rcases h' with ⟨rfl, e, a', b'⟩ | ⟨rfl, rfl, hn'⟩
  . exact ⟨itoa_inj e, rfl⟩
  . exact absurd rfl (hn' _ a b)
  . exact absurd e (hn _ a' b')
  . exact ⟨rfl, rfl⟩
def ParsePost (lo hi : Int) (l : List UInt8) (w : World) (e : Ending) (w' : World) : Prop := ∃ (v : Int) (ok : Bool), e = .returned (.tuple #[.int .i64 v, .bool ok]) /\ InRange lo hi l v ok /\ Below w.heap.size w w'
theorem Reading.int {l : List UInt8} {v : Int} {ok : Bool} (h : Reading 12 l v ok) : InRange (-999999999999) 999999999999 l v ok := by
  rcases h with ⟨rfl, e, hv⟩ | ⟨rfl, rfl, hn⟩
  . exact .inl ⟨rfl, e, by omega, by omega⟩
  . exact .inr ⟨rfl, rfl, λ n a b => hn n (by omega)⟩
theorem specParseInt_any (s : ByteArray) (w : World) (hs : s.size <= maxLen) :
    Calls Tryz.prog 176 #[.string s] w (ParsePost (-999999999999) 999999999999 s.data.toList w) := by
  have HC := Lib.hid (λ w => read_any s 12 w hs (by omega) (by omega))
  clear hs
  go_enter Tryz.func176, Tryz.ntmps176
  go_wp2_with (go_at_call 215; refine (HC.out _).mono ?_; rintro e w1 ⟨v, ok, rfl, hr, hb⟩; have HR := Lib.hid hr; clear hr)
  go_ret2
  exact ⟨v, ok, rfl, HR.out.int, hb⟩
end Go.Proofs.YtppliiingoonlaaGreatDoor
namespace Go.Proofs.YtppliiingoonlaaGreatDoor
open Go.RowKit Go.Sort
theorem below_grow (w : World) (k : Nat) (os : Array Obj) : Below w.heap.size w (grow (w.drewN k) os) :=
  ⟨rfl, rfl, rfl, by simp [grow], λ i hi => by simp [grow, Array.getElem?_append, hi]⟩
def Pow10 (w : World) : Prop := Lib.TabIs Tryz.prog w "internal/strconv.uint64pow10" .u64 Lib.pow10Tab
theorem gPow10 : Tryz.prog.globalNamed "internal/strconv.uint64pow10" = some 2 := by kernel_rfl
theorem var_below {P : Program} {w w' : World} {n : String} {g B : Nat} {cs : Array Value} (h : w.var? P n = some cs) (hg : P.globalNamed n = some g) (hb : Below B w w') (hlt : g < B) : w'.var? P n = some cs := by
  unfold World.var? at h ⊢
  rw [hg] at h ⊢
  simp only [Option.bind_some] at h ⊢
  rw [hb.block g hlt]
  exact h
theorem Pow10.below {w w' : World} (h : Pow10 w) (hb : Below w.heap.size w w') : Pow10 w' := by
  have hc := Lib.TabIs.cell h gPow10 0 (by decide)
  exact var_below h gPow10 hb (World.block_lt_of_cell? w _ hc)
theorem implFmtInt_any (n : Int) (w : World) (h0 : -9223372036854775808 <= n) (h1 : n <= 9223372036854775807) (ht : Pow10 w) :
    Calls Tryz.prog 171 #[.int .i64 n] w λ e w' => e = .returned (.string ⟨(Lib.itoa n).toArray⟩) /\ Below w.heap.size w w' := by
  have HT := Lib.hid ht
  clear ht
  go_enter Tryz.func171, Tryz.ntmps171
  go_wp2_with (go_at_call 212; refine (Tryz.strconv_Itoa n h0 h1 _ HT.out).mono ?_; rintro e w' ⟨rfl, k, os, rfl⟩)
  go_ret
  exact ⟨rfl, below_grow _ _ _⟩
end Go.Proofs.YtppliiingoonlaaGreatDoor
namespace Go.Proofs.YtppliiingoonlaaGreatDoor
open Go.RowKit
def Laid5 (w : World) : Prop := Pow10 w /\ (∃ tp p, w.var? Tryz.prog "strconv.ErrSyntax" = some #[.iface tp p]) /\ (∃ tp p, w.var? Tryz.prog "strconv.ErrRange" = some #[.iface tp p])
theorem gSyn : Tryz.prog.globalNamed "strconv.ErrSyntax" = some 3 := by kernel_rfl
theorem gRng : Tryz.prog.globalNamed "strconv.ErrRange" = some 4 := by kernel_rfl
theorem var_below' {w w' : World} {n : String} {g : Nat} {v : Value} (h : w.var? Tryz.prog n = some #[v]) (hg : Tryz.prog.globalNamed n = some g) (hb : Below w.heap.size w w') : w'.var? Tryz.prog n = some #[v] :=
  var_below h hg hb (World.block_lt_of_cell? w ⟨g, 0, none⟩ (World.var?_cell hg h 0))
theorem Laid5.below {w w' : World} (h : Laid5 w) (hb : Below w.heap.size w w') : Laid5 w' := by
  obtain ⟨h1, ⟨t2, p2, h2⟩, t3, p3, h3⟩ := h
  exact ⟨h1.below hb, ⟨t2, p2, var_below' h2 gSyn hb⟩, t3, p3, var_below' h3 gRng hb⟩
def AtoiErr (w : World) (e : Ending) (w' : World) : Prop := ∃ (k : Int) (N : Nat), e = .returned (.tuple #[.int .i64 k, .iface 282 (.pointer (some ⟨N, 0, none⟩))]) /\ Below w.heap.size w w'
theorem atoi_yes (s : ByteArray) (v : Int) (w : World) (hs : s.size <= 281474976710656) (hq : Lib.atoiAll s.data.toList = .ok v) :
    Calls Tryz.prog 240 #[.string s] w λ e w' => e = .returned (.tuple #[.int .i64 v, .nilIface]) /\ Below w.heap.size w w' := by
  refine (Any.strconv_Atoi_ok Tryz.laysC172 s (by omega) v hq w).mono ?_
  rintro e w' ⟨rfl, rfl | ⟨t, rfl⟩⟩
  . exact ⟨rfl, Below.refl _ _⟩
  . exact ⟨rfl, Lib.bytesWorld_below _ _ _⟩
theorem atoi_no (s : ByteArray) (w : World) (hs : s.size <= 281474976710656) (hl : Laid5 w) (hq : ∀ v, Lib.atoiAll s.data.toList ≠ .ok v) :
    Calls Tryz.prog 240 #[.string s] w (AtoiErr w) := by
  obtain ⟨_, ⟨t2, p2, h2⟩, t3, p3, h3⟩ := hl
  cases hc : Lib.atoiAll s.data.toList with
  | ok v => exact absurd hc (hq v)
  | range =>
    refine (Any.strconv_Atoi_range_var Tryz.laysC172 s hs hc t3 p3 w h3).mono ?_
    rintro e w' ⟨N, he, _, _, hb⟩
    exact ⟨_, N, he, hb⟩
  | _ =>
    refine (Any.strconv_Atoi_syntax_var Tryz.laysC172 s hs hc t2 p2 w h2).mono ?_
    rintro e w' ⟨N, he, _, _, hb⟩
    exact ⟨_, N, he, hb⟩
def Raised (w : World) (e : Ending) (w' : World) : Prop := ∃ (u : TypeId) (pv : Value), e = .panicked [{ v := .iface u pv, recovered := false }] /\ Below w.heap.size w w'
theorem readInteger_yes (s : ByteArray) (lo hi n : Int) (w : World) (hs : s.size <= 281474976710656) (hl : Laid5 w) (hn : s.data.toList = Lib.itoa n) (h0 : lo <= n) (h1 : n <= hi) (h2 : -999999999999 <= n) (h3 : n <= 999999999999) :
    Calls Tryz.prog 214 #[.string s, .int .i64 lo, .int .i64 hi] w λ e w' => e = .returned (.int .i64 n) /\ Below w.heap.size w w' := by
  have HA := Lib.hid (λ w => atoi_yes s n w hs (by rw [hn]; exact atoiAll_itoa n (by omega) (by omega)))
  have HL := Lib.hid hl
  have e1 : decide (n < lo) = false := by simpa using h0
  have e2 : decide (hi < n) = false := by simpa using h1
  have e3 : (Lib.itoa n == s.toList) = true := by rw [ByteArray.toList_eq, hn]; exact beq_self_eq_true _
  clear hn hl hs
  go_enter Tryz.func214, Tryz.ntmps214
  go_wp2_with (first
    | (go_at_call 240; refine (HA.out _).mono ?_; rintro e w1 ⟨rfl, hb1⟩)
    | (go_at_call 171; refine (implFmtInt_any _ _ (by omega) (by omega) (HL.out.below hb1).1).mono ?_; rintro e w2 ⟨rfl, hb2⟩))
  go_ret
  exact ⟨rfl, hb1.trans (hb2.mono hb1.size)⟩
theorem readInteger_no (s : ByteArray) (lo hi : Int) (w : World) (hs : s.size <= 281474976710656) (hl : Laid5 w) (hn : ∀ n : Int, lo <= n -> n <= hi -> s.data.toList ≠ Lib.itoa n) :
    Calls Tryz.prog 214 #[.string s, .int .i64 lo, .int .i64 hi] w (Raised w) := by
  have HL := Lib.hid hl
  by_cases hq : ∃ v, Lib.atoiAll s.data.toList = .ok v
  . obtain ⟨v, hq⟩ := hq
    have hv := Lib.atoiAll_bounds hq
    have HA := Lib.hid (λ w => atoi_yes s v w hs hq)
    clear hs hl hq
    by_cases e1 : v < lo
    . clear hn
      go_enter Tryz.func214, Tryz.ntmps214
      go_wp2_with (go_at_call 240; refine (HA.out _).mono ?_; rintro e w1 ⟨rfl, hb1⟩)
      exact ⟨rfl, _, _, rfl, hb1⟩
    . by_cases e2 : hi < v
      . clear hn
        go_enter Tryz.func214, Tryz.ntmps214
        go_wp2_with (go_at_call 240; refine (HA.out _).mono ?_; rintro e w1 ⟨rfl, hb1⟩)
        exact ⟨rfl, _, _, rfl, hb1⟩
      . have e3 : (Lib.itoa v == s.toList) = false := by
          rw [ByteArray.toList_eq]
          simp only [beq_eq_false_iff_ne, ne_eq]
          intro e
          exact hn v (by omega) (by omega) e.symm
        clear hn
        go_enter Tryz.func214, Tryz.ntmps214
        go_wp2_with (first
          | (go_at_call 240; refine (HA.out _).mono ?_; rintro e w1 ⟨rfl, hb1⟩)
          | (go_at_call 171; refine (implFmtInt_any _ _ (by omega) (by omega) (HL.out.below hb1).1).mono ?_; rintro e w2 ⟨rfl, hb2⟩))
        exact ⟨rfl, _, _, rfl, hb1.trans (hb2.mono hb1.size)⟩
  . have HA := Lib.hid (λ w hl => atoi_no s w hs hl (λ v e => hq ⟨v, e⟩))
    clear hs hl hq hn
    go_enter Tryz.func214, Tryz.ntmps214
    go_wp2_with (go_at_call 240; refine (HA.out _ HL.out).mono ?_; rintro e w1 ⟨k, N, rfl, hb1⟩)
    exact ⟨rfl, _, _, rfl, hb1⟩
theorem parseInt_catch (u : TypeId) (pv : Value) (older : List PanicEntry) (w : World) :
    CallsD Tryz.prog 213 #[] (.panicking ({ v := .iface u pv, recovered := false } :: older)) w λ e u' w' =>
      e = .returned (.tuple #[]) /\ u' = .panicking ({ v := .iface u pv, recovered := true } :: older) /\ w' = w := by
  refine callsD_of_wpS Tryz.func213 rfl λ c₀ cs hu => ?_
  apply wpS_region
  simp [wpOpsS, go_sem, recoverD, hu, Tryz.ntmps213, bodyPostS, results, Tryz.results213]
theorem parseInt_idle (w : World) :
    CallsD Tryz.prog 213 #[] .returning w λ e u' w' => e = .returned (.tuple #[]) /\ u' = .returning /\ w' = w := by
  refine callsD_of_wpS Tryz.func213 rfl λ c₀ cs hu => ?_
  apply wpS_region
  simp [wpOpsS, go_sem, recoverD, hu, Tryz.ntmps213, bodyPostS, results, Tryz.results213]
  cases c₀
  simp_all
theorem parseInt_yes (s : ByteArray) (n : Int) (w : World) (hs : s.size <= 281474976710656) (hl : Laid5 w) (hn : s.data.toList = Lib.itoa n) (h0 : -999999999999 <= n) (h1 : n <= 999999999999) :
    Calls Tryz.prog 172 #[.string s] w λ e w' => e = .returned (.tuple #[.int .i64 n, .bool true]) /\ Below w.heap.size w w' := by
  have hmf : ∀ (fn : Fn) (first cap : Array Value) (w : World), (Instr.makeFunc fn first cap).run Tryz.prog w = .ok (.func fn first cap) w := λ _ _ _ _ => rfl
  have HC := Lib.hid (λ w hl => readInteger_yes s (-999999999999) 999999999999 n w hs hl hn h0 h1 (by omega) (by omega))
  have HL := Lib.hid hl
  clear hl hs hn
  go_enter_defers Tryz.func172, Tryz.ntmps172
  go_wp2_with (go_at_call 214; refine (HC.out _ HL.out).mono ?_; rintro e w1 ⟨rfl, hb1⟩)
  refine leaves_cons (f := 213) (args := #[]) (by simp) (by simp [go_sem]) ?_
  refine (parseInt_idle _).mono ?_
  rintro e u' w'' ⟨rfl, rfl, rfl⟩
  simp [Leaves, settle, results, Tryz.results172, go_sem]
  exact hb1
theorem parseInt_no (s : ByteArray) (w : World) (hs : s.size <= 281474976710656) (hl : Laid5 w) (hn : ∀ n : Int, -999999999999 <= n -> n <= 999999999999 -> s.data.toList ≠ Lib.itoa n) :
    Calls Tryz.prog 172 #[.string s] w λ e w' => e = .returned (.tuple #[.int .i64 0, .bool false]) /\ Below w.heap.size w w' := by
  have hmf : ∀ (fn : Fn) (first cap : Array Value) (w : World), (Instr.makeFunc fn first cap).run Tryz.prog w = .ok (.func fn first cap) w := λ _ _ _ _ => rfl
  have HC := Lib.hid (λ w hl => readInteger_no s (-999999999999) 999999999999 w hs hl hn)
  have HL := Lib.hid hl
  clear hl hs hn
  go_enter_defers Tryz.func172, Tryz.ntmps172
  go_wp2_with (go_at_call 214; refine (HC.out _ HL.out).mono ?_; rintro e w1 ⟨u, pv, rfl, hb1⟩)
  refine leaves_cons (f := 213) (args := #[]) (by simp) (by simp [go_sem]) ?_
  refine (parseInt_catch u pv [] _).mono ?_
  rintro e u' w'' ⟨rfl, rfl, rfl⟩
  simp [Leaves, settle, results, Tryz.results172, go_sem]
  exact hb1
theorem pow10_of_listed {l : List (String × DataW Unit)} {W : World} 
    (hf : (l.filter λ x => x.1 == "internal/strconv.uint64pow10") = [("internal/strconv.uint64pow10", Rows.laid_internal_strconv_uint64pow10)])
    (h : laidMet Tryz.prog l W) : Pow10 W := by
  have h1 := h.filter λ x => x.1 == "internal/strconv.uint64pow10"
  rw [hf] at h1
  exact Lib.tabIs_of_head (t := 285) (e := 274) (n := 20) gPow10 (by kernel_rfl) Tryz.underlying285 Tryz.underlying274 (by kernel_rfl) (by kernel_rfl) h1
theorem errStar : "*" ++ "errors.errorString" = "*errors.errorString" := by decide
theorem errRow (u : TypeId) (h : Tryz.prog.typeName? 3 u = some "*errors.errorString") : u = 296 :=
  typeName_ptr_named (nm := "errors.errorString") (by rw [errStar]; kernel_rfl) (by kernel_rfl) (by decide) u (by rw [errStar]; exact h)
theorem laid5_of_laid {l : List (String × DataW Unit)} {W : World} (hp : (l.all λ x => x.2.handleName?.isNone) = true)
    (hf : (l.filter λ x => x.1 == "internal/strconv.uint64pow10") = [("internal/strconv.uint64pow10", Rows.laid_internal_strconv_uint64pow10)])
    (hs : (l.filter λ x => x.1 == "strconv.ErrSyntax") = [("strconv.ErrSyntax", Rows.laid_strconv_ErrSyntax)])
    (hr : (l.filter λ x => x.1 == "strconv.ErrRange") = [("strconv.ErrRange", Rows.laid_strconv_ErrRange)])
    (h : laidMetH Tryz.prog l W) : Laid5 W := by
  rw [MakeChecks.laidMetH_plain _ _ _ hp] at h
  have h1 := h.filter λ x => x.1 == "strconv.ErrSyntax"
  have h2 := h.filter λ x => x.1 == "strconv.ErrRange"
  rw [hs] at h1
  rw [hr] at h2
  obtain ⟨a1, s1, v1, _⟩ := laid_sentinel h1 gSyn (by kernel_rfl) Tryz.underlying96 errRow Tryz.underlying296 Tryz.underlying298 rfl rfl Tryz.underlying9 (by kernel_rfl) (by kernel_rfl)
  obtain ⟨a2, s2, v2, _⟩ := laid_sentinel h2 gRng (by kernel_rfl) Tryz.underlying96 errRow Tryz.underlying296 Tryz.underlying298 rfl rfl Tryz.underlying9 (by kernel_rfl) (by kernel_rfl)
  exact ⟨pow10_of_listed hf h, ⟨_, _, v1⟩, _, _, v2⟩
inductive Fr where
  | nil : Fr
  | cons (k : Int) (l : ByteArray) (a r : Fr) : Fr
  deriving DecidableEq
instance : Inhabited Fr := ⟨.nil⟩
def Fr.items : Fr -> List (Int × ByteArray × Fr)
  | .nil => []
  | .cons k l a r => (k, l, a) :: r.items
def Fr.size : Fr -> Nat
  | .nil => 0
  | .cons _ _ a r => a.size + r.size + 1
theorem Fr.size_item : ∀ {f : Fr} {j : Nat} {k : Int} {l : ByteArray} {a : Fr}, f.items[j]? = some (k, l, a) -> a.size < f.size
  | .nil, j, _, _, _, h => by simp [items] at h
  | .cons k' l' a' r, 0, k, l, a, h => by
    simp [items] at h
    obtain ⟨_, _, rfl⟩ := h
    simp [size]
    omega
  | .cons k' l' a' r, j + 1, k, l, a, h => by
    simp [items] at h
    have := size_item h
    simp [size]
    omega
theorem Fr.len_size : ∀ f : Fr, f.items.length <= f.size
  | .nil => Nat.le_refl _
  | .cons _ _ a r => by
    have := len_size r
    simp [items, size]
    omega
theorem below_draws {B : Nat} {a w : World} (h : Below B a w) (n : Nat) : Below B a (w.drewN n) := ⟨h.os, h.tape, h.output, h.size, h.block⟩
def ElAt (w : World) (g o : Nat) (k : Int) (l : ByteArray) (u : Value) : Prop :=
  w.cell? ⟨g, o, none⟩ = some (.int .i64 k) /\ w.cell? ⟨g, o + 1, none⟩ = some (.string l) /\ w.cell? ⟨g, o + 2, none⟩ = some u
theorem ElAt.below {w w' : World} {B g o : Nat} {k : Int} {l : ByteArray} {u : Value} (h : ElAt w g o k l u) (hb : Below B w w') (hg : g < B) : ElAt w' g o k l u :=
  ⟨(hb.cell (p := ⟨g, o, none⟩) hg).trans h.1, (hb.cell (p := ⟨g, o + 1, none⟩) hg).trans h.2.1, (hb.cell (p := ⟨g, o + 2, none⟩) hg).trans h.2.2⟩
theorem ElAt.same {w w' : World} {g o : Nat} {k : Int} {l : ByteArray} {u : Value} (h : ElAt w g o k l u) (hs : w'.heap[g]? = w.heap[g]?) : ElAt w' g o k l u :=
  ⟨(World.cell?_of_block (a := ⟨g, o, none⟩) hs).trans h.1, (World.cell?_of_block (a := ⟨g, o + 1, none⟩) hs).trans h.2.1, (World.cell?_of_block (a := ⟨g, o + 2, none⟩) hs).trans h.2.2⟩
def SlP (w : World) (S : Nat -> Prop) : Nat -> Value -> Fr -> Prop
  | 0, _, _ => False
  | n + 1, v, f => f.items.length <= 9223372036854775807 /\ ((f.items.length = 0 /\ ∃ A c, v = .slice A 0 c) \/ ∃ g o c, v = .slice (some ⟨g, o, none⟩) f.items.length c /\ S g /\
      ∀ j k l a, f.items[j]? = some (k, l, a) -> l.size <= 9223372036854775807 /\ ∃ u, ElAt w g (o + j * 3) k l u /\ SlP w S n u a)
theorem SlP.mono {w w' : World} {S S' : Nat -> Prop} (hs : ∀ g, S g -> w'.heap[g]? = w.heap[g]?) (hS : ∀ g, S g -> S' g) : ∀ {n : Nat} {v : Value} {f : Fr}, SlP w S n v f -> SlP w' S' n v f
  | 0, _, _, h => h
  | n + 1, v, f, ⟨hl, h⟩ => by
    refine ⟨hl, ?_⟩
    rcases h with h | ⟨g, o, c, hv, hg, hc⟩
    . exact .inl h
    . refine .inr ⟨g, o, c, hv, hS g hg, λ j k l a hj => ?_⟩
      obtain ⟨hl', u, he, h4⟩ := hc j k l a hj
      exact ⟨hl', u, he.same (hs g hg), h4.mono hs hS⟩
theorem SlP.more {w : World} {S : Nat -> Prop} : ∀ {n : Nat} {v : Value} {f : Fr}, SlP w S n v f -> SlP w S (n + 1) v f
  | 0, _, _, h => h.elim
  | n + 1, v, f, ⟨hl, h⟩ => by
    refine ⟨hl, ?_⟩
    rcases h with h | ⟨g, o, c, hv, hg, hc⟩
    . exact .inl h
    . refine .inr ⟨g, o, c, hv, hg, λ j k l a hj => ?_⟩
      obtain ⟨hs, u, he, h4⟩ := hc j k l a hj
      exact ⟨hs, u, he, h4.more⟩
theorem SlP.shape {w : World} {S : Nat -> Prop} : ∀ {n : Nat} {v : Value} {f : Fr}, SlP w S n v f -> ∃ A c, v = .slice A f.items.length c
  | 0, _, _, h => h.elim
  | n + 1, v, f, ⟨_, h⟩ => by
    rcases h with ⟨h0, A, c, hv⟩ | ⟨g, o, c, hv, _⟩
    . exact ⟨A, c, by rw [hv, h0]⟩
    . exact ⟨_, c, hv⟩
def Sl (w : World) (B : Nat) (n : Nat) (v : Value) (f : Fr) : Prop := SlP w (λ g => g < B) n v f
theorem Sl.mono {w w' : World} {B B' : Nat} (hb : Below B w w') (hB : B <= B') {n : Nat} {v : Value} {f : Fr} (h : Sl w B n v f) : Sl w' B' n v f :=
  SlP.mono (λ g hg => hb.block g hg) (λ _ hg => Nat.lt_of_lt_of_le hg hB) h
theorem Sl.zero {w : World} {B : Nat} {v : Value} {f : Fr} (h : Sl w B 0 v f) : False := h
theorem Sl.open {w : World} {B n : Nat} {v : Value} {f : Fr} (h : Sl w B (n + 1) v f) : f.items.length <= 9223372036854775807 /\ ∃ A c, v = .slice A f.items.length c /\
    ∀ j, j < f.items.length -> ∃ g o, A = some ⟨g, o, none⟩ /\ g < B /\ ∃ k l a u, f.items[j]? = some (k, l, a) /\ l.size <= 9223372036854775807 /\ ElAt w g (o + j * 3) k l u /\ Sl w B n u a := by
  obtain ⟨hl, h⟩ := h
  refine ⟨hl, ?_⟩
  rcases h with ⟨h0, A, c, hv⟩ | ⟨g, o, c, hv, hg, hc⟩
  . exact ⟨A, c, by rw [hv, h0], λ j hj => by omega⟩
  . refine ⟨_, c, hv, λ j hj => ⟨g, o, rfl, hg, ?_⟩⟩
    obtain ⟨x, hx⟩ : ∃ x, f.items[j]? = some x := ⟨_, List.getElem?_eq_getElem hj⟩
    obtain ⟨k, l, a⟩ := x
    obtain ⟨hs, u, he, h4⟩ := hc j k l a hx
    exact ⟨k, l, a, u, hx, hs, he, h4⟩
def Fr.depth : Fr -> Nat
  | .nil => 0
  | .cons _ _ a r => max (a.depth + 1) r.depth
end Go.Proofs.YtppliiingoonlaaGreatDoor
namespace Go.Proofs.YtppliiingoonlaaGreatDoor
open Go.RowKit
def deepest (L : List (Int × ByteArray × Fr)) : Nat := L.foldr (λ x n => max (x.2.2.depth + 1) n) 0
theorem depth_items : ∀ f : Fr, f.depth = deepest f.items
  | .nil => rfl
  | .cons _ _ a r => by
    simp only [Fr.depth, Fr.items, deepest, List.foldr_cons]
    rw [depth_items r]
    rfl
theorem deepest_snoc : ∀ (L : List (Int × ByteArray × Fr)) (x : Int × ByteArray × Fr), deepest (L ++ [x]) = max (deepest L) (x.2.2.depth + 1)
  | [], x => by simp [deepest]
  | y :: r, x => by
    have := deepest_snoc r x
    simp only [deepest, List.cons_append, List.foldr_cons] at this ⊢
    rw [this]
    omega
theorem l1Max_any (x y : Nat) (w : World) : Calls Tryz.prog 173 #[.int .i64 x, .int .i64 y] w λ e w' => e = .returned (.int .i64 ((max x y : Nat) : Int)) /\ w = w' := by
  by_cases h : y < x
  . have e : max x y = x := by omega
    have HE := Lib.hid e
    clear e
    go_enter Tryz.func173, Tryz.ntmps173
    go_wp2
    go_ret
    exact ⟨congrArg (λ z : Nat => Ending.returned (.int .i64 (z : Int))) HE.out.symm, rfl⟩
  . have e : max x y = y := by omega
    have HE := Lib.hid e
    clear e
    go_enter Tryz.func173, Tryz.ntmps173
    go_wp2
    go_ret
    exact ⟨congrArg (λ z : Nat => Ending.returned (.int .i64 (z : Int))) HE.out.symm, rfl⟩
theorem depth_le : ∀ f : Fr, f.depth <= f.size
  | .nil => Nat.le_refl _
  | .cons _ _ a r => by
    have := depth_le a
    have := depth_le r
    simp only [Fr.depth, Fr.size]
    omega
theorem deepest_take : ∀ (L : List (Int × ByteArray × Fr)) (j : Nat), deepest (L.take j) <= deepest L
  | _, 0 => Nat.zero_le _
  | [], _ + 1 => Nat.le_refl _
  | x :: r, j + 1 => by
    have := deepest_take r j
    simp only [deepest, List.take_succ_cons, List.foldr_cons] at this ⊢
    omega
theorem deepest_le (f : Fr) (j : Nat) : deepest (f.items.take j) <= f.size := by
  have h1 := deepest_take f.items j
  rw [<- depth_items] at h1
  exact Nat.le_trans h1 (depth_le f)
theorem deepest_step {f : Fr} {j : Nat} {k : Int} {l : ByteArray} {a : Fr} (h : f.items[j]? = some (k, l, a)) : deepest (f.items.take (j + 1)) = max (deepest (f.items.take j)) (a.depth + 1) := by
  have hlt := (List.getElem?_eq_some_iff.1 h).1
  rw [List.take_succ_eq_append_getElem hlt, deepest_snoc]
  rw [(List.getElem?_eq_some_iff.1 h).2]
theorem specDepth_any (n : Nat) : ∀ (B : Nat) (k : Int) (l : ByteArray) (u : Value) (a : Fr) (w : World), Sl w B n u a -> B <= w.heap.size -> a.size <= 2097152 ->
    Calls Tryz.prog 118 #[.agg #[.int .i64 k, .string l, u]] w λ e w' => e = .returned (.int .i64 ((a.depth + 1 : Nat) : Int)) /\ Below w.heap.size w w' := by
  induction n with
  | zero => intro B k l u a w h; exact h.zero.elim
  | succ n ih =>
    intro B k l u a w hS hB hsz
    obtain ⟨hl, A, c, rfl, hE⟩ := hS.open
    have HE := Lib.hid hE
    clear hE hS
    go_enter Tryz.func118, Tryz.ntmps118
    go_wp2_with fail
    go_loopw [3, 4] (λ m i wr => ∃ j : Nat, i = .int .i64 j /\ m = .int .i64 (deepest (a.items.take j) : Nat) /\ j <= a.items.length /\ Below (w.heap.size + 1) (w.alloc (.cells #[.int .i64 k, .string l, .slice A a.items.length c] 26)) wr) (λ _ i _ => a.items.length - (intOf i).toNat)
    case atStart => exact ⟨0, rfl, rfl, Nat.zero_le _, Below.refl _ _⟩
    case round =>
      obtain ⟨j, rfl, rfl, hj, hb⟩ := hrel
      have hbox := (hb.cell (p := ⟨w.heap.size, 2, none⟩) (Nat.lt_succ_self _)).trans (show _ = some (.slice A a.items.length c) by simp)
      have hwz : w.heap.size + 1 <= wr.heap.size := by have := hb.size; simpa using this
      have HB := Lib.hid hb
      clear hb
      by_cases hlt : j < a.items.length
      . obtain ⟨g, o, rfl, hg, k', l', a', u, hx, hls, he, h4⟩ := HE.out j hlt
        have hw : Below w.heap.size w wr := ((Below.refl _ w).alloc (Nat.le_refl _) _).trans (HB.out.mono (Nat.le_succ _))
        obtain ⟨hc0, hc1, hc2⟩ := he.below hw (Nat.lt_of_lt_of_le hg hB)
        have hsa := Fr.size_item hx
        have HX := Lib.hid hx
        have HI := Lib.hid (λ w1 (hw1 : w.heap.size <= w1.heap.size) (hb1 : Below w.heap.size w w1) => ih B k' l' u a' w1 (h4.mono (hb1.mono hB) (Nat.le_refl _)) (by omega) (by omega))
        have HW := Lib.hid hw
        clear he h4 hx hw
        have hd1 := deepest_le a j
        have hd2 := deepest_le a (j + 1)
        have hd3 := depth_le a'
        go_wp2_with fail
        refine (HI.out wr (by omega) HW.out).mono ?_
        rintro e w1 ⟨rfl, hb1⟩
        have HB1 := Lib.hid (HB.out.trans (hb1.mono hwz))
        clear hb1
        go_wp2_with fail
        refine (l1Max_any _ _ _).mono ?_
        rintro e w' ⟨rfl, rfl⟩
        have HT := Lib.hid (deepest_step HX.out)
        go_wp2_with fail
        go_roundw
        case rel => exact ⟨j + 1, by go_num, congrArg (λ z : Nat => Value.int .i64 (z : Int)) HT.out.symm, by omega, HB1.out⟩
        case measure => simp [intOf]; omega
      . obtain rfl : j = a.items.length := by omega
        have hd : deepest a.items <= a.size := by rw [<- depth_items]; exact depth_le a
        have HW := Lib.hid (((Below.refl _ w).alloc (Nat.le_refl _) _).trans (HB.out.mono (Nat.le_succ _)))
        go_wp2_with fail
        go_ret
        exact ⟨by rw [depth_items]; rfl, HW.out⟩
end Go.Proofs.YtppliiingoonlaaGreatDoor
namespace Go.Proofs.YtppliiingoonlaaGreatDoor
open Go.RowKit
def leftRow : Fr -> Int -> Int
  | .nil, z => z
  | .cons _ _ a r, z => if z < 0 then z else leftRow r (leftRow a (z - 1))
def leftL : List (Int × ByteArray × Fr) -> Int -> Int
  | [], z => z
  | x :: r, z => if z < 0 then z else leftL r (leftRow x.2.2 (z - 1))
theorem left_items : ∀ (f : Fr) (z : Int), leftRow f z = leftL f.items z
  | .nil, _ => rfl
  | .cons _ _ a r, z => by
    simp only [leftRow, Fr.items, leftL]
    rw [left_items r]
theorem leftRow_le : ∀ (f : Fr) (z : Int), -1 <= z -> -1 <= leftRow f z /\ leftRow f z <= z
  | .nil, z, h => ⟨h, Int.le_refl _⟩
  | .cons _ _ a r, z, h => by
    simp only [leftRow]
    by_cases hz : z < 0
    . rw [if_pos hz]; exact ⟨h, Int.le_refl _⟩
    . rw [if_neg hz]
      have h1 := leftRow_le a (z - 1) (by omega)
      have h2 := leftRow_le r (leftRow a (z - 1)) h1.1
      omega
theorem leftL_neg (L : List (Int × ByteArray × Fr)) (z : Int) (h : z < 0) : leftL L z = z := by
  cases L with
  | nil => rfl
  | cons x r => simp only [leftL]; rw [if_pos h]
theorem leftL_step {f : Fr} {j : Nat} {k : Int} {l : ByteArray} {a : Fr} (h : f.items[j]? = some (k, l, a)) (z : Int) (hz : ¬ z < 0) : leftL (f.items.drop j) z = leftL (f.items.drop (j + 1)) (leftRow a (z - 1)) := by
  have hlt := (List.getElem?_eq_some_iff.1 h).1
  rw [List.drop_eq_getElem_cons hlt, leftL, if_neg hz, (List.getElem?_eq_some_iff.1 h).2]
theorem specLeft_any (n : Nat) : ∀ (B : Nat) (k : Int) (l : ByteArray) (u : Value) (a : Fr) (z : Int) (w : World), Sl w B n u a -> B <= w.heap.size -> 0 <= z -> z <= 1000000 ->
    Calls Tryz.prog 117 #[.agg #[.int .i64 k, .string l, u], .int .i64 z] w λ e w' => e = .returned (.int .i64 (leftRow a (z - 1))) /\ Below w.heap.size w w' := by
  induction n with
  | zero => intro B k l u a z w h; exact h.zero.elim
  | succ n ih =>
    intro B k l u a z w hS hB hz0 hz1
    obtain ⟨hl, A, c, rfl, hE⟩ := hS.open
    have HE := Lib.hid hE
    clear hE hS
    go_enter Tryz.func117, Tryz.ntmps117
    go_wp2_with fail
    go_loopw [1, 5] (λ m i wr => ∃ (j : Nat) (y : Int), i = .int .i64 j /\ m = .int .i64 y /\ -1 <= y /\ y <= 1000000 /\ leftL (a.items.drop j) y = leftRow a (z - 1) /\ j <= a.items.length /\ Below (w.heap.size + 1) (w.alloc (.cells #[.int .i64 k, .string l, .slice A a.items.length c] 26)) wr) (λ _ i _ => a.items.length - (intOf i).toNat)
    case atStart => exact ⟨0, z - 1, rfl, rfl, by omega, by omega, by rw [left_items]; rfl, Nat.zero_le _, Below.refl _ _⟩
    case round =>
      obtain ⟨j, y, rfl, rfl, hy0, hy1, hy, hj, hb⟩ := hrel
      have HY := Lib.hid hy
      have hbox := (hb.cell (p := ⟨w.heap.size, 2, none⟩) (Nat.lt_succ_self _)).trans (show _ = some (.slice A a.items.length c) by simp)
      have hwz : w.heap.size + 1 <= wr.heap.size := by have := hb.size; simpa using this
      have HB := Lib.hid hb
      have HW := Lib.hid (((Below.refl _ w).alloc (Nat.le_refl _) _).trans (hb.mono (Nat.le_succ _)))
      clear hb hy
      by_cases hlt : j < a.items.length
      . by_cases hneg : y < 0
        . have HN : Hid (y = leftRow a (z - 1)) := Lib.hid (by rw [<- HY.out, leftL_neg _ _ hneg])
          have hd : decide (0 <= y) = false := by simpa using hneg
          go_wp2_with fail
          go_ret
          exact ⟨congrArg (λ z : Int => Ending.returned (.int .i64 z)) HN.out, HW.out⟩
        . obtain ⟨g, o, rfl, hg, k', l', a', u, hx, hls, he, h4⟩ := HE.out j hlt
          obtain ⟨hc0, hc1, hc2⟩ := he.below HW.out (Nat.lt_of_lt_of_le hg hB)
          have HI := Lib.hid (λ w1 (hw1 : w.heap.size <= w1.heap.size) (hb1 : Below w.heap.size w w1) => ih B k' l' u a' y w1 (h4.mono (hb1.mono hB) (Nat.le_refl _)) (by omega) (by omega) hy1)
          have HS := Lib.hid (leftL_step hx y hneg)
          obtain ⟨q0, q1⟩ := leftRow_le a' (y - 1) (by omega)
          have hy2 : 0 <= y := by omega
          clear he h4 hx hneg
          go_wp2_with fail
          refine (HI.out wr (by omega) HW.out).mono ?_
          rintro e w1 ⟨rfl, hb1⟩
          have HB1 := Lib.hid (HB.out.trans (hb1.mono hwz))
          clear hb1
          go_wp2_with fail
          go_roundw
          case rel => exact ⟨j + 1, _, by go_num, rfl, q0, by omega, by rw [<- HS.out]; exact HY.out, by omega, HB1.out⟩
          case measure => simp [intOf]; omega
      . have HN : Hid (y = leftRow a (z - 1)) := Lib.hid (by rw [<- HY.out, List.drop_eq_nil_of_le (by omega)]; rfl)
        have hd : decide ((j : Int) < (a.items.length : Int)) = false := by simp; omega
        go_wp2_with fail
        go_ret
        exact ⟨congrArg (λ z : Int => Ending.returned (.int .i64 z)) HN.out, HW.out⟩
end Go.Proofs.YtppliiingoonlaaGreatDoor
namespace Go.Proofs.YtppliiingoonlaaGreatDoor
open Go.RowKit
def strs (ps : List (List UInt8)) : List Value := ps.map λ p => .string ⟨p.toArray⟩
theorem strs_append (a b : List (List UInt8)) : strs (a ++ b) = strs a ++ strs b := by simp [strs]
theorem strInfo : (Tryz.prog.info? 9).map (λ i => (i.zero, i.size, i.bytes)) = some (some (.string ⟨#[]⟩), 1, 16) := by kernel_rfl
def SplPost (ps : List (List UInt8)) (w : World) (e : Ending) (w' : World) : Prop :=
  ∃ v, e = .returned v /\ w'.ownsRow w.heap.size 9 1 v ps.length (strs ps) /\ Below w.heap.size w w'
theorem newCell (wr : World) (t : TypeId) (x : ByteArray) : ∀ j u, [Value.string x][j]? = some u -> (wr.alloc (.cells #[.string x] t)).cell? ((⟨wr.heap.size, 0, none⟩ : Addr).add j) = some u := by
  intro j u hj
  match j, hj with
  | 0, hj => simp at hj; subst hj; simp [Addr.add]
theorem oneCell_str (x : ByteArray) : ∀ u ∈ [Value.string x], u.oneCell' = true := by
  intro u hu
  simp at hu
  subst hu
  rfl
theorem extract_str (s : ByteArray) (f k : Nat) : s.extract f k = ⟨((s.data.toList.drop f).take (k - f)).toArray⟩ := by
  cases s with | mk d =>
  apply ByteArray.ext
  apply Array.toList_inj.1
  simp
theorem grow_strs {wr w1 w : World} {B : Nat} {v v' : Value} {P : List (List UInt8)} {x : ByteArray} {p : List UInt8} {o : Obj} (hx : x = ⟨p.toArray⟩) (hown : wr.ownsRow B 9 1 v P.length (strs P)) (hb : Below B w wr) (hB : B <= wr.heap.size)
    (hown' : w1.ownsRow B 9 1 v' (P.length + 1) (strs P ++ [.string x])) (hg : (wr.alloc o).grownBy w1 v.ownBlock) :
    w1.ownsRow B 9 1 v' (P ++ [p]).length (strs (P ++ [p])) /\ Below B w w1 := by
  refine ⟨?_, (hb.alloc hB o).grown hg (by simp; omega) (λ k hk => (hown.lt k hk).1)⟩
  rw [strs_append, List.length_append]
  subst hx
  exact hown'
theorem own_lower {w : World} {B B' n : Nat} {e : TypeId} {size : Nat} {v : Value} {xs : List Value} (h : w.ownsRow B e size v n xs) (hB : B' <= B) : w.ownsRow B' e size v n xs := by
  refine ⟨h.1, ?_⟩
  rcases h.2 with h0 | ⟨g, cap, cur, h1, h2, h3⟩
  . exact .inl h0
  . exact .inr ⟨g, cap, cur, h1, Nat.le_trans hB h2, h3⟩
theorem grown_of_below {w w' : World} (h : Below w.heap.size w w') (row : Option Nat) : w.grownBy w' row := ⟨h.os, h.tape, h.output, h.size, λ k hk _ => h.block k hk⟩
theorem owns_below {w w' : World} {B : Nat} {e : TypeId} {size n : Nat} {v : Value} {xs : List Value} (h : w.ownsRow B e size v n xs) (hb : Below w.heap.size w w') : w'.ownsRow B e size v n xs :=
  h.kept (grown_of_below hb none) (by cases hv : v.ownBlock <;> simp)
end Go.Proofs.YtppliiingoonlaaGreatDoor
namespace Go.Proofs.YtppliiingoonlaaGreatDoor
def letters : List UInt8 := [97, 98, 99]
def isLetter (b : UInt8) : Bool := decide (97 <= b.toNat) && decide (b.toNat <= 99)
def isW (l : List UInt8) : Bool := l.all isLetter && decide (l.length <= 30)
end Go.Proofs.YtppliiingoonlaaGreatDoor
namespace Go.Proofs.YtppliiingoonlaaGreatDoor
open Go.RowKit
def letIdx (b : UInt8) : Int := if b = 97 then 0 else if b = 98 then 1 else if b = 99 then 2 else -1
theorem letIdx_lib (b : UInt8) : Lib.indexByte [97, 98, 99] b = letIdx b := by
  unfold letIdx
  by_cases h0 : b = 97
  . subst h0; rfl
  . by_cases h1 : b = 98
    . subst h1; rfl
    . by_cases h2 : b = 99
      . subst h2; rfl
      . rw [if_neg h0, if_neg h1, if_neg h2]
        have e0 : ¬ (97 = b) := λ e => h0 e.symm
        have e1 : ¬ (98 = b) := λ e => h1 e.symm
        have e2 : ¬ (99 = b) := λ e => h2 e.symm
        simp [Lib.indexByte, e0, e1, e2]
theorem letIdx_yes {b : UInt8} (h : isLetter b = true) : letIdx b = (b.toNat : Int) - 97 /\ 97 <= b.toNat /\ b.toNat <= 99 := by
  simp only [isLetter, Bool.and_eq_true, decide_eq_true_eq] at h
  refine ⟨?_, h.1, h.2⟩
  unfold letIdx
  by_cases h0 : b = 97
  . rw [if_pos h0, h0]; rfl
  . by_cases h1 : b = 98
    . rw [if_neg h0, if_pos h1, h1]; rfl
    . have h2 : b = 99 := by
        have n0 : b.toNat ≠ 97 := λ e => h0 (UInt8.toNat_inj.1 e)
        have n1 : b.toNat ≠ 98 := λ e => h1 (UInt8.toNat_inj.1 e)
        exact UInt8.toNat_inj.1 (show b.toNat = 99 by omega)
      rw [if_neg h0, if_neg h1, if_pos h2, h2]; rfl
theorem letIdx_no {b : UInt8} (h : isLetter b = false) : letIdx b = -1 := by
  have n : b.toNat ≠ 97 /\ b.toNat ≠ 98 /\ b.toNat ≠ 99 := by
    refine ⟨λ e => ?_, λ e => ?_, λ e => ?_⟩ <;> simp [isLetter, e] at h
  unfold letIdx
  rw [if_neg (λ e => n.1 (by rw [e]; rfl)), if_neg (λ e => n.2.1 (by rw [e]; rfl)), if_neg (λ e => n.2.2 (by rw [e]; rfl))]
theorem all_take_succ (s : ByteArray) (k : Nat) (h : k < s.size) : (s.data.toList.take (k + 1)).all isLetter = ((s.data.toList.take k).all isLetter && isLetter s[k]) := by
  rw [List.take_succ_eq_append_getElem (by simpa using h), List.all_append]
  simp
  rfl
theorem isW_bad {s : ByteArray} {k : Nat} (h : k < s.size) (hb : isLetter s[k] = false) : isW s.data.toList = false := by
  have : s.data.toList.all isLetter = false := by
    rw [List.all_eq_false]
    exact ⟨s[k], List.mem_iff_getElem.2 ⟨k, by simpa using h, rfl⟩, by simp [hb]⟩
  simp [isW, this]
theorem isW_all {s : ByteArray} (h : (s.data.toList.take s.size).all isLetter = true) : isW s.data.toList = decide ((s.size : Int) <= 30) := by
  have e : s.data.toList.take s.size = s.data.toList := List.take_of_length_le (by simp)
  rw [e] at h
  unfold isW
  rw [h, Bool.true_and]
  simp
  omega
theorem isW_long {s : ByteArray} (h : 30 < s.size) : isW s.data.toList = false := by
  unfold isW
  rw [Bool.and_eq_false_iff]
  right
  simp
  omega
theorem specLet_any (b : UInt8) (w : World) :
    Calls Tryz.prog 115 #[.int .u8 b.toNat] w λ e w' => e = .returned (.int .i64 (letIdx b)) /\ w = w' := by
  by_cases h0 : b = 97
  . subst h0
    go_enter Tryz.func115, Tryz.ntmps115
    go_wp2
    refine wp_loop_rounds 1 ?_
    rw [rounds_succ]
    go_wp2
    go_ret
    exact ⟨rfl, rfl⟩
  . by_cases h1 : b = 98
    . subst h1
      go_enter Tryz.func115, Tryz.ntmps115
      go_wp2
      refine wp_loop_rounds 2 ?_
      rw [rounds_succ]
      go_wp2
      rw [rounds_succ]
      go_wp2
      go_ret
      exact ⟨rfl, rfl⟩
    . by_cases h2 : b = 99
      . subst h2
        go_enter Tryz.func115, Tryz.ntmps115
        go_wp2
        refine wp_loop_rounds 3 ?_
        rw [rounds_succ]
        go_wp2
        rw [rounds_succ]
        go_wp2
        rw [rounds_succ]
        go_wp2
        go_ret
        exact ⟨rfl, rfl⟩
      . have e : letIdx b = -1 := by unfold letIdx; rw [if_neg h0, if_neg h1, if_neg h2]
        have HE := Lib.hid e
        have f0 : ((((ByteArray.mk #[97, 98, 99])[0]'(by decide)).toNat : Int) == (b.toNat : Int)) = false := by
          show ((97 : Int) == (b.toNat : Int)) = false
          simp only [beq_eq_false_iff_ne, ne_eq]; intro e; exact h0 (UInt8.toNat_inj.1 (by simp; omega))
        have f1 : ((((ByteArray.mk #[97, 98, 99])[1]'(by decide)).toNat : Int) == (b.toNat : Int)) = false := by
          show ((98 : Int) == (b.toNat : Int)) = false
          simp only [beq_eq_false_iff_ne, ne_eq]; intro e; exact h1 (UInt8.toNat_inj.1 (by simp; omega))
        have f2 : ((((ByteArray.mk #[97, 98, 99])[2]'(by decide)).toNat : Int) == (b.toNat : Int)) = false := by
          show ((99 : Int) == (b.toNat : Int)) = false
          simp only [beq_eq_false_iff_ne, ne_eq]; intro e; exact h2 (UInt8.toNat_inj.1 (by simp; omega))
        clear e h0 h1 h2
        go_enter Tryz.func115, Tryz.ntmps115
        go_wp2
        refine wp_loop_rounds 4 ?_
        rw [rounds_succ]
        go_wp2
        rw [rounds_succ]
        go_wp2
        rw [rounds_succ]
        go_wp2
        rw [rounds_succ]
        go_wp2
        go_ret
        exact ⟨congrArg (λ z => Ending.returned (.int .i64 z)) HE.out.symm, rfl⟩
theorem specIsWord_any (s : ByteArray) (w : World) (hs : s.size <= maxLen) :
    Calls Tryz.prog 74 #[.string s] w λ e w' => e = .returned (.bool (isW s.data.toList)) /\ w = w' := by
  unfold maxLen at hs
  go_enter Tryz.func74, Tryz.ntmps74
  go_wp2
  go_loop [3] (λ i => ∃ k : Nat, i = .int .i64 k /\ k <= s.size /\ (s.data.toList.take k).all isLetter = true) (λ i => s.size - (intOf i).toNat)
  case atStart => exact ⟨0, rfl, Nat.zero_le _, rfl⟩
  case round =>
    obtain ⟨k, rfl, hk, hall⟩ := hrel
    have HA := Lib.hid hall
    clear hall
    by_cases hlt : k < s.size
    . cases hb : isLetter s[k] with
      | true =>
        have HN := Lib.hid (show (s.data.toList.take (k + 1)).all isLetter = true by rw [all_take_succ s k hlt, HA.out, hb]; rfl)
        obtain ⟨hl, h97, h99⟩ := letIdx_yes hb
        have hl0 : 0 <= letIdx s[k] := by omega
        clear hl hb
        go_wp2_with (go_at_call 115; refine (specLet_any _ _).mono ?_; rintro e w' ⟨rfl, rfl⟩)
        go_round
        case rel => exact ⟨k + 1, by go_num, by omega, HN.out⟩
        case measure => simp [intOf]; omega
      | false =>
        have HN := Lib.hid (isW_bad hlt hb)
        have hl := letIdx_no hb
        have hl0 : letIdx s[k] < 0 := by omega
        clear hl hb
        go_wp2_with (go_at_call 115; refine (specLet_any _ _).mono ?_; rintro e w' ⟨rfl, rfl⟩)
        go_ret
        exact ⟨congrArg (λ z => Ending.returned (.bool z)) HN.out.symm, rfl⟩
    . obtain rfl : k = s.size := by omega
      have HN := Lib.hid (isW_all HA.out)
      go_wp2
      go_ret
      exact ⟨congrArg (λ z => Ending.returned (.bool z)) HN.out.symm, rfl⟩
def argsOf (k : Int) : Int := if k = 5 \/ k = 6 \/ k = 7 then 2 else if k = 8 \/ k = 9 then 1 else 0
theorem l3Args_any (k : Int) (w : World) : Calls Tryz.prog 174 #[.int .i64 k] w λ e w' => e = .returned (.int .i64 (argsOf k)) /\ w = w' := by
  by_cases h5 : k = 5
  . subst h5
    go_enter Tryz.func174, Tryz.ntmps174
    go_wp2
    go_ret
    exact ⟨rfl, rfl⟩
  by_cases h6 : k = 6
  . subst h6
    go_enter Tryz.func174, Tryz.ntmps174
    go_wp2
    go_ret
    exact ⟨rfl, rfl⟩
  by_cases h7 : k = 7
  . subst h7
    go_enter Tryz.func174, Tryz.ntmps174
    go_wp2
    go_ret
    exact ⟨rfl, rfl⟩
  by_cases h8 : k = 8
  . subst h8
    go_enter Tryz.func174, Tryz.ntmps174
    go_wp2
    go_ret
    exact ⟨rfl, rfl⟩
  by_cases h9 : k = 9
  . subst h9
    go_enter Tryz.func174, Tryz.ntmps174
    go_wp2
    go_ret
    exact ⟨rfl, rfl⟩
  have HA : Hid (argsOf k = 0) := Lib.hid (by unfold argsOf; rw [if_neg (by omega), if_neg (by omega)])
  have e5 : (k == 5) = false := by simpa using h5
  have e6 : (k == 6) = false := by simpa using h6
  have e7 : (k == 7) = false := by simpa using h7
  have e8 : (k == 8) = false := by simpa using h8
  have e9 : (k == 9) = false := by simpa using h9
  clear h5 h6 h7 h8 h9
  go_enter Tryz.func174, Tryz.ntmps174
  go_wp2
  go_ret
  exact ⟨congrArg (λ z : Int => Ending.returned (.int .i64 z)) HA.out.symm, rfl⟩
theorem l1In_all (x lo hi : Int) (b : Bool) (w : World) (h : (decide (lo <= x) && decide (x <= hi)) = b) : Calls Tryz.prog 63 #[.int .i64 x, .int .i64 lo, .int .i64 hi] w λ e w' => e = .returned (.bool b) /\ w = w' := by
  by_cases h1 : lo <= x
  . by_cases h2 : x <= hi
    . have HB := Lib.hid h
      clear h
      go_enter Tryz.func63, Tryz.ntmps63
      go_wp2
      go_ret
      exact ⟨by rw [<- HB.out]; simp [h1, h2], rfl⟩
    . have HB := Lib.hid h
      clear h
      go_enter Tryz.func63, Tryz.ntmps63
      go_wp2
      go_ret
      exact ⟨by rw [<- HB.out]; simp [h2], rfl⟩
  . have h1' : decide (lo <= x) = false := by simpa using h1
    have HN := Lib.hid h1
    have HB := Lib.hid h
    clear h
    go_enter Tryz.func63, Tryz.ntmps63
    go_wp2
    go_ret
    exact ⟨by rw [<- HB.out]; simp; intro h; have := HN.out; omega, rfl⟩
def nodeOk (k : Int) (l : ByteArray) (m : Nat) : Bool :=
  if k = 3 then decide (l.size = 1) && isW l.data.toList && decide (m = 0) else decide (1 <= k /\ k <= 9) && decide (l.size = 0) && decide ((m : Int) = argsOf k)
def allRow : Fr -> Bool
  | .nil => true
  | .cons k l a r => allRow a && nodeOk k l a.items.length && allRow r
def okItem (x : Int × ByteArray × Fr) : Bool := allRow x.2.2 && nodeOk x.1 x.2.1 x.2.2.items.length
theorem all_items : ∀ f : Fr, allRow f = f.items.all okItem
  | .nil => rfl
  | .cons k l a r => by
    simp only [allRow, Fr.items, List.all_cons, okItem]
    rw [all_items r]
theorem all_step {f : Fr} {j : Nat} {k : Int} {l : ByteArray} {a : Fr} (h : f.items[j]? = some (k, l, a)) (hall : (f.items.take j).all okItem = true) (ho : (allRow a && nodeOk k l a.items.length) = true) : (f.items.take (j + 1)).all okItem = true := by
  have hlt := (List.getElem?_eq_some_iff.1 h).1
  rw [List.take_succ_eq_append_getElem hlt, List.all_append, hall, (List.getElem?_eq_some_iff.1 h).2]
  simpa [okItem] using ho
theorem all_bad {f : Fr} {j : Nat} {k : Int} {l : ByteArray} {a : Fr} (h : f.items[j]? = some (k, l, a)) (ho : (allRow a && nodeOk k l a.items.length) = false) : allRow f = false := by
  rw [all_items, List.all_eq_false]
  exact ⟨_, List.mem_of_getElem? h, by simp [okItem, ho]⟩
theorem bytes_nil {l : ByteArray} (h : l.size = 0) : l.toList = [] := by
  rw [ByteArray.toList_eq]
  exact List.eq_nil_of_length_eq_zero (by simpa using h)
theorem bytes_some {l : ByteArray} (h : l.size ≠ 0) : ¬ l.toList = [] := by
  rw [ByteArray.toList_eq]
  intro e
  have := congrArg List.length e
  exact h (by simpa using this)
theorem specAll_any (n : Nat) : ∀ (B : Nat) (k : Int) (l : ByteArray) (u : Value) (a : Fr) (w : World), Sl w B n u a -> B <= w.heap.size -> l.size <= 9223372036854775807 ->
    Calls Tryz.prog 119 #[.agg #[.int .i64 k, .string l, u]] w λ e w' => e = .returned (.bool (allRow a && nodeOk k l a.items.length)) /\ Below w.heap.size w w' := by
  induction n with
  | zero => intro B k l u a w h; exact h.zero.elim
  | succ n ih =>
    intro B k l u a w hS hB hls
    obtain ⟨hl, A, c, rfl, hE⟩ := hS.open
    have HE := Lib.hid hE
    clear hE hS
    go_enter Tryz.func119, Tryz.ntmps119
    go_wp2_with fail
    go_loopw [3] (λ i wr => ∃ j : Nat, i = .int .i64 j /\ (a.items.take j).all okItem = true /\ j <= a.items.length /\ Below (w.heap.size + 1) (w.alloc (.cells #[.int .i64 k, .string l, .slice A a.items.length c] 26)) wr) (λ i _ => a.items.length - (intOf i).toNat)
    case atStart => exact ⟨0, rfl, rfl, Nat.zero_le _, Below.refl _ _⟩
    case round =>
      obtain ⟨j, rfl, hall, hj, hb⟩ := hrel
      have HALL := Lib.hid hall
      have hbox := (hb.cell (p := ⟨w.heap.size, 2, none⟩) (Nat.lt_succ_self _)).trans (show _ = some (.slice A a.items.length c) by simp)
      have hbox0 := (hb.cell (p := ⟨w.heap.size, 0, none⟩) (Nat.lt_succ_self _)).trans (show _ = some (.int .i64 k) by simp)
      have hbox1 := (hb.cell (p := ⟨w.heap.size, 1, none⟩) (Nat.lt_succ_self _)).trans (show _ = some (.string l) by simp)
      have hwz : w.heap.size + 1 <= wr.heap.size := by have := hb.size; simpa using this
      have HB := Lib.hid hb
      have HW := Lib.hid (((Below.refl _ w).alloc (Nat.le_refl _) _).trans (hb.mono (Nat.le_succ _)))
      clear hb hall
      by_cases hlt : j < a.items.length
      . obtain ⟨g, o, rfl, hg, k', l', a', u, hx, hls', he, h4⟩ := HE.out j hlt
        obtain ⟨hc0, hc1, hc2⟩ := he.below HW.out (Nat.lt_of_lt_of_le hg hB)
        have HI := Lib.hid (λ w1 (hw1 : w.heap.size <= w1.heap.size) (hb1 : Below w.heap.size w w1) => ih B k' l' u a' w1 (h4.mono (hb1.mono hB) (Nat.le_refl _)) (by omega) hls')
        cases hok : (allRow a' && nodeOk k' l' a'.items.length) with
        | true =>
          rw [hok] at HI
          have HS := Lib.hid (all_step hx HALL.out hok)
          clear he h4 hx hok
          go_wp2_with fail
          refine (HI.out wr (by omega) HW.out).mono ?_
          rintro e w1 ⟨rfl, hb1⟩
          have HB1 := Lib.hid (HB.out.trans (hb1.mono hwz))
          clear hb1
          go_wp2_with fail
          go_roundw
          case rel => exact ⟨j + 1, by go_num, HS.out, by omega, HB1.out⟩
          case measure => simp [intOf]; omega
        | false =>
          rw [hok] at HI
          have HS := Lib.hid (all_bad hx hok)
          clear he h4 hx hok
          go_wp2_with fail
          refine (HI.out wr (by omega) HW.out).mono ?_
          rintro e w1 ⟨rfl, hb1⟩
          have HB1 := Lib.hid (HW.out.trans (hb1.mono (Nat.le_of_succ_le hwz)))
          clear hb1
          go_wp2_with fail
          go_ret
          exact ⟨by rw [HS.out]; rfl, HB1.out⟩
      . have HA : Hid (allRow a = true) := Lib.hid (by rw [all_items, <- HALL.out, List.take_of_length_le (by omega)])
        have hd : decide ((j : Int) < (a.items.length : Int)) = false := by simp; omega
        by_cases h3 : k = 3
        . subst h3
          have HN : ∀ b, nodeOk 3 l a.items.length = b -> Hid ((allRow a && nodeOk 3 l a.items.length) = b) := λ b h => Lib.hid (by rw [HA.out, h]; rfl)
          by_cases hs : l.size = 1
          . have e1 : ((l.size : Int) == 1) = true := by simp [hs]
            have HI := Lib.hid (λ w => specIsWord_any l w (by unfold maxLen; omega))
            cases hw : isW l.data.toList with
            | true =>
              rw [hw] at HI
              by_cases hm : a.items.length = 0
              . have e2 : ((a.items.length : Int) == 0) = true := by simp [hm]
                have HR := HN true (by simp [nodeOk, hs, hw, hm])
                clear hs hw hm HN
                go_wp2_with (go_at_call 74; refine (HI.out _).mono ?_; rintro e w' ⟨rfl, rfl⟩)
                go_ret
                exact ⟨congrArg (λ z : Bool => Ending.returned (.bool z)) HR.out.symm, HW.out⟩
              . have e2 : ((a.items.length : Int) == 0) = false := by simpa using hm
                have HR := HN false (by simp [nodeOk, hm])
                clear hs hw hm HN
                go_wp2_with (go_at_call 74; refine (HI.out _).mono ?_; rintro e w' ⟨rfl, rfl⟩)
                go_ret
                exact ⟨congrArg (λ z : Bool => Ending.returned (.bool z)) HR.out.symm, HW.out⟩
            | false =>
              rw [hw] at HI
              have HR := HN false (by simp [nodeOk, hw])
              clear hs hw HN
              go_wp2_with (go_at_call 74; refine (HI.out _).mono ?_; rintro e w' ⟨rfl, rfl⟩)
              go_ret
              exact ⟨congrArg (λ z : Bool => Ending.returned (.bool z)) HR.out.symm, HW.out⟩
          . have e1 : ((l.size : Int) == 1) = false := by simp; omega
            have HR := HN false (by simp [nodeOk, hs])
            clear hs HN
            go_wp2_with fail
            go_ret
            exact ⟨congrArg (λ z : Bool => Ending.returned (.bool z)) HR.out.symm, HW.out⟩
        . have e3 : (k == 3) = false := by simpa using h3
          have HN : ∀ b, nodeOk k l a.items.length = b -> Hid ((allRow a && nodeOk k l a.items.length) = b) := λ b h => Lib.hid (by rw [HA.out, h]; rfl)
          have HK := Lib.hid h3
          clear h3
          by_cases hr : 1 <= k /\ k <= 9
          . have HI := Lib.hid (λ w => l1In_all k 1 9 true w (by simp [hr.1, hr.2]))
            by_cases hs : l.size = 0
            . have e1 := bytes_nil hs
              by_cases hm : (a.items.length : Int) = argsOf k
              . have e2 : ((a.items.length : Int) == argsOf k) = true := by simp [hm]
                have HR := HN true (by simp [nodeOk, HK.out, hr, hs, hm])
                clear hs hm HN hr
                go_wp2_with fail
                go_quiet ((first | (go_at_call 63; exact Calls.quiet_of_same ((HI.out _).mono λ _ _ ⟨he, hw⟩ => ⟨he, hw.symm⟩)) | (go_at_call 174; exact Calls.quiet_of_same ((l3Args_any k _).mono λ _ _ ⟨he, hw⟩ => ⟨he, hw.symm⟩))))
                go_wp2
                go_ret
                exact ⟨congrArg (λ z : Bool => Ending.returned (.bool z)) HR.out.symm, below_draws HW.out _⟩
              . have e2 : ((a.items.length : Int) == argsOf k) = false := by simpa using hm
                have HR := HN false (by simp [nodeOk, HK.out, hm])
                clear hs hm HN hr
                go_wp2_with fail
                go_quiet ((first | (go_at_call 63; exact Calls.quiet_of_same ((HI.out _).mono λ _ _ ⟨he, hw⟩ => ⟨he, hw.symm⟩)) | (go_at_call 174; exact Calls.quiet_of_same ((l3Args_any k _).mono λ _ _ ⟨he, hw⟩ => ⟨he, hw.symm⟩))))
                go_wp2
                go_ret
                exact ⟨congrArg (λ z : Bool => Ending.returned (.bool z)) HR.out.symm, below_draws HW.out _⟩
            . have e1 := bytes_some hs
              have HR := HN false (by simp [nodeOk, HK.out, hs])
              clear hs HN hr
              go_wp2_with fail
              go_quiet ((first | (go_at_call 63; exact Calls.quiet_of_same ((HI.out _).mono λ _ _ ⟨he, hw⟩ => ⟨he, hw.symm⟩)) | (go_at_call 174; exact Calls.quiet_of_same ((l3Args_any k _).mono λ _ _ ⟨he, hw⟩ => ⟨he, hw.symm⟩))))
              go_wp2
              go_ret
              exact ⟨congrArg (λ z : Bool => Ending.returned (.bool z)) HR.out.symm, below_draws HW.out _⟩
          . have HI := Lib.hid (λ w => l1In_all k 1 9 false w (by simpa using hr))
            have HR := HN false (by simp [nodeOk, HK.out, hr])
            clear HN hr
            go_wp2_with fail
            go_quiet ((first | (go_at_call 63; exact Calls.quiet_of_same ((HI.out _).mono λ _ _ ⟨he, hw⟩ => ⟨he, hw.symm⟩)) | (go_at_call 174; exact Calls.quiet_of_same ((l3Args_any k _).mono λ _ _ ⟨he, hw⟩ => ⟨he, hw.symm⟩))))
            go_wp2
            go_ret
            exact ⟨congrArg (λ z : Bool => Ending.returned (.bool z)) HR.out.symm, below_draws HW.out _⟩
end Go.Proofs.YtppliiingoonlaaGreatDoor
