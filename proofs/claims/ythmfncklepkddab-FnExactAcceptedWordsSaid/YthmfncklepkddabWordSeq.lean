/-
  What impl.wordsFrom hands back: an iterator that hands the words of a list to a loop, one after the other, as long as the rounds go on: each word of the list is followed by its next one.
-/
import Derived.Test.YthmfncklepkddabNextImpl
import Derived.Test.YthmfncklepkddabMark
import Derived.Test.YthmfncklepkddabRangeLaw
import Derived.OwnWalkIn
import Derived.TacticsInMore
import Derived.LoopNIn
import Derived.LoopIn
import Derived.Shelf.Abstract
namespace Go.Proofs.Ythmfncklepkddab
open Go.RowKit Go.Shelf
attribute [local go_sem] Oper.semAt_some

/-- Element k of a list of words, as a string. -/
def wd (L : List (List UInt8)) (k : Nat) : ByteArray := ⟨(L.getD k []).toArray⟩
theorem wd_list (L : List (List UInt8)) (k : Nat) : (wd L k).data.toList = L.getD k [] := by simp [wd]

/-- m + 1 words, each followed by its next one, none of them twice. -/
structure Chain (L : List (List UInt8)) (m : Nat) : Prop where
  next : ∀ k, k < m → nextW (L.getD k []) = L.getD (k + 1) [] ∧ L.getD (k + 1) [] ≠ []
  short : ∀ k, k ≤ m → (L.getD k []).length ≤ 30
  place : ∀ k, k ≤ m → L.idxOf (L.getD k []) = k

/-- The rounds that are to come, read off the word. -/
def toCome (L : List (List UInt8)) (m : Nat) : Value → Nat
  | .string t => m + 1 - L.idxOf t.data.toList
  | _ => 0
theorem toCome_at {L : List (List UInt8)} {m k : Nat} (h : Chain L m) (hk : k ≤ m) : toCome L m (.string (wd L k)) = m + 1 - k := by
  simp only [toCome]
  rw [wd_list, h.place k hk]

theorem next_at (x y : ByteArray) (w : World) (hx : x.size ≤ maxLen) (h : nextW x.data.toList = y.data.toList) :
    Calls Try.prog 49 #[.string x] w fun e w' => e = .returned (.string y) ∧ Below w.heap.size w w' :=
  (implNext_any x w hx).mono fun _ _ ⟨he, hb⟩ => ⟨by rw [he, h], hb⟩

set_option maxRecDepth 100000 in
set_option maxHeartbeats 1000000 in
theorem wordSeq_rounds (n m n₀ Bp : Nat) (h1 : 1 ≤ n) (L : List (List UInt8)) (hL : Chain L m) (w : World) (hBp : Bp < w.heap.size) (hc : w.cell? ⟨Bp, 0, none⟩ = some (.string (wd L 0))) :
    Rounds n Try.prog 48 #[.pointer (some ⟨Bp, 0, none⟩)] (fun k => #[.string (wd L k)]) m n₀ w := fun l J Jx W hW hJ hY hYm h0 => by
  have hcW : W.cell? ⟨Bp, 0, none⟩ = some (.string (wd L 0)) := (hW.cell (p := ⟨Bp, 0, none⟩) hBp).trans hc
  refine callsIn_of_wp Try.func48 rfl trivial ?_ rfl
  simp only [Try.ntmps48, List.size_toArray, List.length_cons, List.length_nil, Nat.reduceAdd, Nat.reduceSub, Array.replicate_succ, Array.replicate_zero, List.push_toArray, List.append_toArray, List.nil_append, List.cons_append]
  gi_wp2
  gi_loopw [3] (fun s wr => ∃ k : Nat, k ≤ m ∧ s = .string (wd L k) ∧ J k wr) (fun s _ => toCome L m s)
  case atStart => exact ⟨0, Nat.zero_le _, rfl, h0⟩
  case round =>
    obtain ⟨k, hk, rfl, hJk⟩ := hrel
    by_cases hlt : k < m
    · obtain ⟨fn, tmps, assign, body, hy, hR⟩ := hY k wr hlt hJk
      have HN := Lib.hid (fun w => next_at (wd L k) (wd L (k + 1)) w (by
        have h := hL.short k hk
        rw [← wd_list] at h
        have : (wd L k).size ≤ 30 := by simpa using h
        unfold maxLen; omega) (by rw [wd_list, wd_list]; exact (hL.next k hlt).1))
      have hne := (hL.next k hlt).2
      rw [← wd_list, ← ByteArray.toList_eq] at hne
      have hne2 : (wd L (k + 1)).toList.isEmpty = false := by
        cases he : (wd L (k + 1)).toList with
        | nil => exact absurd he hne
        | cons _ _ => rfl
      gi_wp2
      refine hR.mono ?_
      rintro e W3 ⟨rfl, hJ3, hb3⟩
      gi_wp2
      refine ⟨trivial, (callsIn_wide.2 (HN.out _)).mono ?_⟩
      rintro e W4 ⟨rfl, hb4⟩
      gi_wp2
      have hJ4 := hJ (k + 1) W3 W4 none hJ3 (grown_of_below hb4 none) (fun r e => by cases e)
      go_roundw
      case rel => exact ⟨k + 1, hlt, rfl, hJ4⟩
      case measure => rw [toCome_at hL hlt, toCome_at hL hk]; omega
    · obtain rfl : k = m := by omega
      obtain ⟨fn, tmps, assign, body, hy, hR⟩ := hYm wr hJk
      gi_wp2
      refine hR.mono ?_
      rintro e W3 ⟨rfl, hJ3⟩
      gi_wp2
      go_end0
      exact ⟨⟨_, rfl⟩, hJ3⟩

set_option maxHeartbeats 1000000 in
/-- impl.wordsFrom: the first word is boxed; the function value captures the box. -/
theorem wordsFrom_any (n : Nat) (s : ByteArray) (w : World) :
    CallsIn Fence.wide n Try.prog 45 #[.string s] w fun e w' => e = .returned (.func (.func 48) #[] #[.pointer (some ⟨w.heap.size, 0, none⟩)]) ∧ w' = w.alloc (.cells #[.string s] 9) := by
  refine callsIn_of_wp Try.func45 rfl trivial ?_ rfl
  simp only [Try.ntmps45, List.size_toArray, List.length_cons, List.length_nil, Nat.reduceAdd, Nat.reduceSub, Array.replicate_succ, Array.replicate_zero, List.push_toArray, List.append_toArray, List.nil_append, List.cons_append]
  gi_wp2
  go_ret
  exact ⟨rfl, rfl⟩
end Go.Proofs.Ythmfncklepkddab
