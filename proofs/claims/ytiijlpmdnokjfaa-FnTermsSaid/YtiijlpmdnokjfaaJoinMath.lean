/-
  Plain facts on joining rows of bytes, of no program.
-/
import Derived.Lib.Join
namespace Go.Proofs.Ytiijlpmdnokjfaa
open Go.Lib

theorem join_snoc (x sep : List UInt8) : ∀ l : List (List UInt8), l ≠ [] → join (l ++ [x]) sep = join l sep ++ sep ++ x
  | [], h => absurd rfl h
  | a :: r, _ => by
    rw [List.cons_append, join_cons, join_cons]
    simp [joinTail, List.append_assoc]

theorem join_step {ps : List (List UInt8)} {sep x : List UInt8} {k : Nat} (h : ps[k]? = some x) (hk : 0 < k) : join (ps.take (k + 1)) sep = join (ps.take k) sep ++ sep ++ x := by
  rw [List.take_add_one, h]
  refine join_snoc x sep _ (fun e => ?_)
  have hl : k < ps.length := (List.getElem?_eq_some_iff.1 h).1
  have h0 := congrArg List.length e
  rw [List.length_take, List.length_nil] at h0
  omega
theorem join_first {ps : List (List UInt8)} {sep x : List UInt8} (h : ps[0]? = some x) : join (ps.take 1) sep = x := by
  cases ps with
  | nil => simp at h
  | cons a r =>
    simp at h
    subst h
    simp [join_one]

theorem join_take_le (ps : List (List UInt8)) (sep : List UInt8) (k : Nat) : (join (ps.take k) sep).length ≤ (join ps sep).length := by
  cases ps with
  | nil => simp
  | cons a r =>
    cases k with
    | zero => simp [join_nil]
    | succ k =>
      rw [List.take_succ_cons, join_cons, join_cons]
      have := joinTail_take_le sep r k
      simp
      omega

/-- What Join answers: the joined bytes, none where they are too many. -/
def joined (ps : List (List UInt8)) (sep : List UInt8) : List UInt8 := if (join ps sep).length ≤ 1048576 then join ps sep else []
theorem joined_yes {ps : List (List UInt8)} {sep : List UInt8} (h : (join ps sep).length ≤ 1048576) : joined ps sep = join ps sep := if_pos h
theorem joined_no {ps : List (List UInt8)} {sep : List UInt8} (h : ¬ (join ps sep).length ≤ 1048576) : joined ps sep = [] := if_neg h
theorem elem_le_lens {ps : List (List UInt8)} {k : Nat} {x : List UInt8} (h : ps[k]? = some x) : x.length ≤ lens ps := by
  have h1 := lens_take_succ ps k x h
  have h2 := lens_take_le ps (k + 1)
  omega
end Go.Proofs.Ytiijlpmdnokjfaa
