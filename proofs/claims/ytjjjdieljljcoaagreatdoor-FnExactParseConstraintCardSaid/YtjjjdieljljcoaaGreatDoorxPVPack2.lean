/-
  Texts of one proof, one behind the other.
-/
import Derived.Lib.Strings
import Derived.Lib.Bytealg
import Derived.Lib.IndexLaws
import Derived.Lib.Join
import Derived.Test.YtjjjdieljljcoaaGreatDoorRows
import Derived.RegionTactic
import Derived.Deep.QuietTactic
import Derived.BigQuiet
import Derived.Lib.Builder
import Derived.Deep.RegionHeld3
import Derived.StillTailTactics
import Derived.OwnWalk
import Derived.Test.YtjjjdieljljcoaaGreatDoorxPVPack1

/-
  Plain facts on terms, of no program: letters and variables, the variables that occur, a text with a part in the place of each byte.
-/
namespace Go.Proofs.YtjjjdieljljcoaaGreatDoor
open Go.RowKit
def isVarB (b : UInt8) : Bool := decide (88 ≤ b.toNat) && decide (b.toNat ≤ 90)
def tLet (b : UInt8) : Bool := isLetter b || isVarB b
def isT (l : List UInt8) : Bool := l.all tLet && decide (l.length ≤ 12)
def vars3 : List UInt8 := [88, 89, 90]
/-- The variables that occur, in order. -/
def varsL (l : List UInt8) : List UInt8 := vars3.filter fun b => l.contains b
/-- A text of at most 2^20 bytes, or none. -/
def limB (l : List UInt8) : List UInt8 := if l.length ≤ 1048576 then l else []
def valB (x y z : ByteArray) (b : UInt8) : ByteArray := if b = 88 then x else if b = 89 then y else if b = 90 then z else ⟨#[]⟩
def withV (x y z : ByteArray) (b : UInt8) (s : ByteArray) : Value := .agg #[.string (if b = 88 then s else x), .string (if b = 89 then s else y), .string (if b = 90 then s else z)]
def isV (x y z : ByteArray) : Bool := isW x.data.toList && isW y.data.toList && isW z.data.toList
/-- A part in the place of each byte. -/
def subL (f : UInt8 → List UInt8) (l : List UInt8) : List UInt8 := l.flatMap f
def repF (b0 : UInt8) (t : ByteArray) (b : UInt8) : List UInt8 := if b = b0 then t.data.toList else [b]
def appF (x y z : ByteArray) (b : UInt8) : List UInt8 := if isVarB b then (valB x y z b).data.toList else [b]

/-- How often a byte occurs. -/
def cntL (l : List UInt8) (b : UInt8) : Nat := l.count b
/-- The variables that occur, among the first k. -/
def varsK (l : List UInt8) (k : Nat) : List UInt8 := (vars3.take k).filter fun b => decide (0 < cntL l b)
/-- Text as a string. -/
def strL (l : List UInt8) : ByteArray := ⟨l.toArray⟩
theorem tAll_succ (s : ByteArray) (k : Nat) (h : k < s.size) : (s.data.toList.take (k + 1)).all tLet = ((s.data.toList.take k).all tLet && tLet s[k]) := by
  rw [List.take_succ_eq_append_getElem (by simpa using h), List.all_append]
  simp
  rfl
theorem isT_bad {s : ByteArray} {k : Nat} (h : k < s.size) (hb : tLet s[k] = false) : isT s.data.toList = false := by
  have : s.data.toList.all tLet = false := by
    rw [List.all_eq_false]
    exact ⟨s[k], List.mem_iff_getElem.2 ⟨k, by simpa using h, rfl⟩, by simp [hb]⟩
  simp [isT, this]
theorem isT_all {s : ByteArray} (h : (s.data.toList.take s.size).all tLet = true) : isT s.data.toList = decide ((s.size : Int) ≤ 12) := by
  have e : s.data.toList.take s.size = s.data.toList := List.take_of_length_le (by simp)
  rw [e] at h
  unfold isT
  rw [h, Bool.true_and]
  simp
  omega
theorem isT_long {s : ByteArray} (h : 12 < s.size) : isT s.data.toList = false := by
  unfold isT
  rw [Bool.and_eq_false_iff]
  right
  simp
  omega
theorem count_succ (s : ByteArray) (b : UInt8) (k : Nat) (h : k < s.size) : cntL (s.data.toList.take (k + 1)) b = cntL (s.data.toList.take k) b + (if s[k] = b then 1 else 0) := by
  unfold cntL
  rw [List.take_succ_eq_append_getElem (by simpa using h), List.count_append, List.count_singleton]
  congr 1
  have e : s.data.toList[k]'(by simpa using h) = s[k] := rfl
  rw [e]
  by_cases h1 : s[k] = b <;> simp [h1]
theorem count_end (s : ByteArray) (b : UInt8) : cntL (s.data.toList.take s.size) b = cntL s.data.toList b := by
  rw [List.take_of_length_le (by simp)]
theorem index_cnt (l : List UInt8) (b : UInt8) : decide (0 ≤ Lib.indexByte l b) = decide (0 < cntL l b) := by
  unfold cntL
  induction l with
  | nil => rfl
  | cons a r ih =>
    unfold Lib.indexByte
    have hge := Lib.indexByte_ge r b
    by_cases h : a = b
    · subst h
      simp
    · rw [List.count_cons_of_ne h]
      rw [if_neg (by simpa using h)]
      by_cases h2 : Lib.indexByte r b = -1
      · rw [if_pos (by simpa using h2)]
        rw [h2] at ih
        rw [← ih]
      · rw [if_neg (by simpa using h2)]
        have h0 : decide (0 ≤ Lib.indexByte r b) = true := by simp; omega
        rw [h0] at ih
        rw [← ih]
        simp
        omega
theorem cntL_contains (l : List UInt8) (b : UInt8) : decide (0 < cntL l b) = l.contains b := by
  unfold cntL
  rw [Bool.eq_iff_iff]
  simp [List.count_pos_iff]
theorem varsK_succ (l : List UInt8) {k : Nat} {b : UInt8} (h : vars3[k]? = some b) : varsK l (k + 1) = varsK l k ++ (if 0 < cntL l b then [b] else []) := by
  unfold varsK
  rw [List.take_add_one, h, List.filter_append]
  congr 1
  by_cases hc : 0 < cntL l b <;> simp [hc]
theorem varsK_len (l : List UInt8) (k : Nat) : (varsK l k).length ≤ 3 := Nat.le_trans (List.length_filter_le _ _) (by simp [vars3]; omega)
theorem varsK_end (l : List UInt8) : varsK l 3 = varsL l := by
  unfold varsK varsL
  rw [show vars3.take 3 = vars3 from rfl]
  exact List.filter_congr fun b _ => cntL_contains l b
theorem strL_nil : (⟨#[]⟩ : ByteArray) = strL [] := rfl
theorem strL_snoc (l : List UInt8) (b : UInt8) {t : ByteArray} (h : t = ⟨#[b]⟩) : strL l ++ t = strL (l ++ [b]) := by
  subst h
  apply ByteArray.ext
  simp [strL, ByteArray.data_append]
theorem strL_app (l m : List UInt8) {t : ByteArray} (h : t.data.toList = m) : strL l ++ t = strL (l ++ m) := by
  subst h
  apply ByteArray.ext
  simp [strL, ByteArray.data_append]
theorem strL_size (l : List UInt8) : (strL l).size = l.length := by simp [strL, ByteArray.size]
theorem strL_list (l : List UInt8) : (strL l).data.toList = l := by simp [strL]
theorem one_extract (s : ByteArray) (k : Nat) (h : k < s.size) : (s.extract k (k + 1)).data.toList = [s[k]] := by
  rw [Lib.extract_data]
  have e : k + 1 - k = 1 := by omega
  have h' : k < s.data.toList.length := by simpa using h
  rw [e, List.drop_eq_getElem_cons h', List.take_succ_cons, List.take_zero]
  rfl
theorem sub_succ (f : UInt8 → List UInt8) (s : ByteArray) (k : Nat) (h : k < s.size) : subL f (s.data.toList.take (k + 1)) = subL f (s.data.toList.take k) ++ f s[k] := by
  unfold subL
  rw [List.take_succ_eq_append_getElem (by simpa using h), List.flatMap_append]
  simp
  rfl
theorem sub_zero (f : UInt8 → List UInt8) (l : List UInt8) : subL f (l.take 0) = [] := rfl
theorem sub_end (f : UInt8 → List UInt8) (s : ByteArray) : subL f (s.data.toList.take s.size) = subL f s.data.toList := by
  rw [List.take_of_length_le (by simp)]
theorem sub_len_le (f : UInt8 → List UInt8) (l : List UInt8) (k : Nat) : (subL f (l.take k)).length ≤ (subL f l).length := by
  have e : subL f l = subL f (l.take k) ++ subL f (l.drop k) := by
    unfold subL
    rw [← List.flatMap_append, List.take_append_drop]
  rw [e, List.length_append]
  omega
/-- Too many bytes at some place: too many at the end. -/
theorem sub_over {f : UInt8 → List UInt8} {l : List UInt8} {k : Nat} (h : ¬ (subL f (l.take k)).length ≤ 1048576) : limB (subL f l) = [] := by
  unfold limB
  rw [if_neg]
  intro hl
  exact h (Nat.le_trans (sub_len_le f l k) hl)
theorem sub_fits {f : UInt8 → List UInt8} {s : ByteArray} (h : (subL f (s.data.toList.take s.size)).length ≤ 1048576) : limB (subL f s.data.toList) = subL f (s.data.toList.take s.size) := by
  rw [sub_end] at h ⊢
  unfold limB
  rw [if_pos h]
theorem isVarB_iff (b : UInt8) : isVarB b = true ↔ b = 88 ∨ b = 89 ∨ b = 90 := by
  simp only [isVarB, Bool.and_eq_true, decide_eq_true_eq]
  constructor
  · intro ⟨h1, h2⟩
    rcases (by omega : b.toNat = 88 ∨ b.toNat = 89 ∨ b.toNat = 90) with h | h | h
    · exact Or.inl (UInt8.toNat_inj.1 h)
    · exact Or.inr (Or.inl (UInt8.toNat_inj.1 h))
    · exact Or.inr (Or.inr (UInt8.toNat_inj.1 h))
  · rintro (h | h | h) <;> subst h <;> decide
theorem valB_le {x y z : ByteArray} {n : Nat} (hx : x.size ≤ n) (hy : y.size ≤ n) (hz : z.size ≤ n) (b : UInt8) : (valB x y z b).size ≤ n := by
  unfold valB
  split
  · exact hx
  · split
    · exact hy
    · split
      · exact hz
      · exact Nat.zero_le _
/-- NAME=WORD. -/
def partV (x y z : ByteArray) (b : UInt8) : List UInt8 := b :: 61 :: (valB x y z b).data.toList
def partsV (x y z : ByteArray) (M : List UInt8) : List (List UInt8) := M.map (partV x y z)
theorem partV_str (x y z : ByteArray) {t : ByteArray} {b : UInt8} (h : t.data.toList = [b]) : t ++ ⟨#[61]⟩ ++ valB x y z b = ⟨(partV x y z b).toArray⟩ := by
  apply ByteArray.ext
  apply Array.ext'
  simp [partV, ByteArray.data_append, h]
theorem varIdx_lib (b : UInt8) : decide (0 ≤ Lib.indexByte [88, 89, 90] b) = isVarB b := by
  by_cases h0 : b = 88
  · subst h0; rfl
  · by_cases h1 : b = 89
    · subst h1; rfl
    · by_cases h2 : b = 90
      · subst h2; rfl
      · have hv : isVarB b = false := by
          rw [Bool.eq_false_iff]
          intro h
          rcases (isVarB_iff b).1 h with h | h | h
          · exact h0 h
          · exact h1 h
          · exact h2 h
        have e0 : ¬ (88 = b) := fun e => h0 e.symm
        have e1 : ¬ (89 = b) := fun e => h1 e.symm
        have e2 : ¬ (90 = b) := fun e => h2 e.symm
        rw [hv]
        simp [Lib.indexByte, e0, e1, e2]
theorem tLet_idx (b : UInt8) : decide (0 ≤ Lib.indexByte [97, 98, 99, 88, 89, 90] b) = tLet b := by
  unfold tLet
  by_cases h : isLetter b = true
  · obtain ⟨_, h1, h2⟩ := letIdx_yes h
    rw [h, Bool.true_or]
    rcases (by omega : b.toNat = 97 ∨ b.toNat = 98 ∨ b.toNat = 99) with e | e | e
    · obtain rfl : b = 97 := UInt8.toNat_inj.1 e
      rfl
    · obtain rfl : b = 98 := UInt8.toNat_inj.1 e
      rfl
    · obtain rfl : b = 99 := UInt8.toNat_inj.1 e
      rfl
  · have hl : isLetter b = false := by simpa using h
    by_cases hv : isVarB b = true
    · rw [hv, hl]
      rcases (isVarB_iff b).1 hv with e | e | e <;> subst e <;> rfl
    · have hv : isVarB b = false := by simpa using hv
      rw [hl, hv]
      have n0 : ¬ (97 = b) := by rintro rfl; simp [isLetter] at hl
      have n1 : ¬ (98 = b) := by rintro rfl; simp [isLetter] at hl
      have n2 : ¬ (99 = b) := by rintro rfl; simp [isLetter] at hl
      have n3 : ¬ (88 = b) := by rintro rfl; simp [isVarB] at hv
      have n4 : ¬ (89 = b) := by rintro rfl; simp [isVarB] at hv
      have n5 : ¬ (90 = b) := by rintro rfl; simp [isVarB] at hv
      simp [Lib.indexByte, n0, n1, n2, n3, n4, n5]
end Go.Proofs.YtjjjdieljljcoaaGreatDoor

/-
  Plain facts on splitting a row of bytes at a byte, of no program.
-/
namespace Go.Proofs.YtjjjdieljljcoaaGreatDoor
/-- The substrings between the occurrences of c. -/
def spl (c : UInt8) : List UInt8 → List (List UInt8)
  | [] => [[]]
  | b :: r => if b = c then [] :: spl c r else
    match spl c r with
    | [] => [[b]]
    | p :: ps => (b :: p) :: ps

theorem spl_ne (c : UInt8) : ∀ l, spl c l ≠ []
  | [] => by simp [spl]
  | b :: r => by
    unfold spl
    split
    · simp
    · split <;> simp

/-- Without an occurrence: one piece. -/
theorem spl_none (c : UInt8) : ∀ l, (∀ b ∈ l, b ≠ c) → spl c l = [l]
  | [], _ => rfl
  | b :: r, h => by
    unfold spl
    rw [if_neg (h b (by simp)), spl_none c r (fun x hx => h x (by simp [hx]))]

/-- The first occurrence at o: the piece before it, and the pieces of the rest. -/
theorem spl_at (c : UInt8) : ∀ (l : List UInt8) (o : Nat), l[o]? = some c → (∀ k, k < o → l[k]? ≠ some c) → spl c l = l.take o :: spl c (l.drop (o + 1))
  | [], o, h, _ => by simp at h
  | b :: r, 0, h, _ => by
    simp at h
    subst h
    rw [show spl b (b :: r) = [] :: spl b r by rw [spl, if_pos rfl]]
    simp
  | b :: r, o + 1, h, hk => by
    have hb : b ≠ c := fun e => hk 0 (by omega) (by simp [e])
    have ih := spl_at c r o (by simpa using h) (fun k hlt => by have := hk (k + 1) (by omega); simpa using this)
    have e : spl c (b :: r) = (b :: r.take o) :: spl c (r.drop (o + 1)) := by
      conv => lhs; unfold spl
      rw [if_neg hb, ih]
    rw [e]
    simp

theorem spl_length (c : UInt8) : ∀ l, (spl c l).length ≤ l.length + 1
  | [] => by simp [spl]
  | b :: r => by
    have := spl_length c r
    unfold spl
    split
    · simp; omega
    · split
      · simp
      · rename_i p ps e
        rw [e] at this
        simp at *
        omega

/-- No piece holds c. -/
theorem spl_free (c : UInt8) : ∀ l, ∀ p ∈ spl c l, ∀ b ∈ p, b ≠ c
  | [], p, hp, b, hb => by
    simp [spl] at hp
    subst hp
    simp at hb
  | x :: r, p, hp, b, hb => by
    have ih := spl_free c r
    unfold spl at hp
    split at hp
    · rcases List.mem_cons.1 hp with rfl | hp
      · simp at hb
      · exact ih p hp b hb
    · rename_i hx
      split at hp
      · simp at hp
        subst hp
        simp at hb
        rw [hb]
        exact hx
      · rename_i q qs e
        rcases List.mem_cons.1 hp with rfl | hp
        · rcases List.mem_cons.1 hb with rfl | hb
          · exact hx
          · exact ih q (by rw [e]; simp) b hb
        · exact ih p (by rw [e]; simp [hp]) b hb

/-- The model's loop: P is done, f is where the piece under way begins, k is where the loop stands. -/
def SplRel (c : UInt8) (l : List UInt8) (P : List (List UInt8)) (f k : Nat) : Prop :=
  (k ≤ l.length ∧ f ≤ k ∧ spl c l = P ++ spl c (l.drop f) ∧ ∀ j, f ≤ j → j < k → l[j]? ≠ some c) ∨ (k = l.length + 1 ∧ f = k ∧ spl c l = P)

theorem SplRel.start (c : UInt8) (l : List UInt8) : SplRel c l [] 0 0 := .inl ⟨Nat.zero_le _, Nat.le_refl _, by simp, fun j _ h => by omega⟩
theorem SplRel.pass {c : UInt8} {l : List UInt8} {P : List (List UInt8)} {f k : Nat} (h : SplRel c l P f k) (hk : k < l.length) (hc : l[k]? ≠ some c) : SplRel c l P f (k + 1) := by
  rcases h with ⟨h1, h2, h3, h4⟩ | ⟨h1, _, _⟩
  · refine .inl ⟨by omega, by omega, h3, fun j a b => ?_⟩
    by_cases e : j = k
    · rw [e]; exact hc
    · exact h4 j a (by omega)
  · omega
theorem SplRel.hit {c : UInt8} {l : List UInt8} {P : List (List UInt8)} {f k : Nat} (h : SplRel c l P f k) (hk : k < l.length) (hc : l[k]? = some c) : SplRel c l (P ++ [(l.drop f).take (k - f)]) (k + 1) (k + 1) := by
  rcases h with ⟨h1, h2, h3, h4⟩ | ⟨h1, _⟩
  · refine .inl ⟨by omega, Nat.le_refl _, ?_, fun j a b => by omega⟩
    rw [h3, spl_at c (l.drop f) (k - f) (by rw [List.getElem?_drop, show f + (k - f) = k by omega]; exact hc) (fun j hj => by rw [List.getElem?_drop]; exact h4 (f + j) (by omega) (by omega))]
    rw [List.drop_drop, show f + (k - f + 1) = k + 1 by omega]
    simp
  · omega
theorem SplRel.last {c : UInt8} {l : List UInt8} {P : List (List UInt8)} {f : Nat} (h : SplRel c l P f l.length) : SplRel c l (P ++ [(l.drop f).take (l.length - f)]) (l.length + 1) (l.length + 1) := by
  rcases h with ⟨_, h2, h3, h4⟩ | ⟨h1, _⟩
  · refine .inr ⟨rfl, rfl, ?_⟩
    rw [h3, spl_none c (l.drop f) (fun b hb e => ?_), List.take_of_length_le (by simp)]
    obtain ⟨j, hj⟩ := List.getElem?_of_mem hb
    rw [List.getElem?_drop, e] at hj
    have hlt : f + j < l.length := by
      rcases Nat.lt_or_ge (f + j) l.length with h | h
      · exact h
      · rw [List.getElem?_eq_none h] at hj; cases hj
    exact h4 (f + j) (by omega) hlt hj
  · omega
theorem SplRel.bound {c : UInt8} {l : List UInt8} {P : List (List UInt8)} {f k : Nat} (h : SplRel c l P f k) : f ≤ l.length + 1 ∧ P.length ≤ l.length + 1 ∧ (k ≤ l.length → f ≤ k ∧ P.length ≤ l.length) := by
  have hl := spl_length c l
  rcases h with ⟨h1, h2, h3, _⟩ | ⟨h1, h2⟩
  · rw [h3] at hl
    have hn := List.length_pos_iff.2 (spl_ne c (l.drop f))
    simp at hl
    exact ⟨by omega, by omega, fun _ => ⟨h2, by omega⟩⟩
  · obtain ⟨h2, h3⟩ := h2
    rw [h3] at hl
    exact ⟨by omega, hl, fun _ => by omega⟩
theorem SplRel.done {c : UInt8} {l : List UInt8} {P : List (List UInt8)} {f k : Nat} (h : SplRel c l P f k) (hk : k = l.length + 1) : spl c l = P := by
  rcases h with ⟨h1, _⟩ | ⟨_, _, h2⟩
  · omega
  · exact h2
end Go.Proofs.YtjjjdieljljcoaaGreatDoor

/-
  Constraints as plain data: which are valid, their text, and what a text is read as; the text of a valid constraint is read as the constraint. Of no function of the program.
-/
namespace Go.Proofs.YtjjjdieljljcoaaGreatDoor
open Go.RowKit
structure Cn where
  k : Int
  l : List UInt8
  r : List UInt8
  x : Nd
  cs : List Int
  b : Int
def zeroNd : Nd := (0, ⟨#[]⟩, .nil)
def zeroCn : Cn := ⟨0, [], [], zeroNd, [], 0⟩
def isZ (x : Nd) : Bool := decide (x.1 = 0) && decide (x.2.1.size = 0) && decide (x.2.2.items.length = 0)
def inR (lo hi z : Int) : Bool := decide (lo ≤ z) && decide (z ≤ hi)
def validC (c : Cn) : Bool :=
  if c.k = 1 ∨ c.k = 2 then isT c.l && isT c.r && isZ c.x && (decide (c.cs.length = 0) && decide (c.b = 0))
  else if c.k = 3 ∨ c.k = 4 then isT c.l && decide (c.r.length = 0) && validRx c.x.1 c.x.2.1 c.x.2.2 && (decide (c.cs.length = 0) && decide (c.b = 0))
  else if c.k = 5 then decide (c.l.length = 0) && decide (c.r.length = 0) && isZ c.x && (c.cs.all (inR (-9) 9) && decide (c.cs.length = 3)) && inR (-99) 99 c.b
  else false
/-- A term's text: a dash for none. -/
def termT (l : List UInt8) : List UInt8 := if l = [] then [45] else l
def numsT (l : List Int) : List UInt8 := l.flatMap fun z => 32 :: Lib.itoa z
def bodyT (c : Cn) : List UInt8 :=
  if c.k = 1 then termT c.l ++ [32, 61, 32] ++ termT c.r
  else if c.k = 2 then termT c.l ++ [32, 33, 61, 32] ++ termT c.r
  else if c.k = 3 then termT c.l ++ [32, 105, 110, 32] ++ ndTxt c.x
  else if c.k = 4 then termT c.l ++ [32, 111, 117, 116, 32] ++ ndTxt c.x
  else [108, 101, 110] ++ numsT c.cs ++ 32 :: Lib.itoa c.b
def fmtC (c : Cn) : List UInt8 := if validC c then bodyT c else []
def readT (s : List UInt8) : List UInt8 := if s = [45] then [] else s
def readX (s : List UInt8) : Nd := (parseAll s).getD zeroNd
/-- The number that a text is, or 0. -/
noncomputable def readN (s : List UInt8) : Int := @dite _ (∃ n : Int, -999999999999 ≤ n ∧ n ≤ 999999999999 ∧ s = Lib.itoa n) (Classical.propDecidable _) (fun h => Classical.choose h) (fun _ => 0)
theorem readN_itoa {n : Int} (h0 : -999999999999 ≤ n) (h1 : n ≤ 999999999999) : readN (Lib.itoa n) = n := by
  have h : ∃ m : Int, -999999999999 ≤ m ∧ m ≤ 999999999999 ∧ Lib.itoa n = Lib.itoa m := ⟨n, h0, h1, rfl⟩
  unfold readN
  rw [dif_pos h]
  exact (itoa_inj (Classical.choose_spec h).2.2).symm
noncomputable def lenC (ws : List (List UInt8)) : Cn := ⟨5, [], [], zeroNd, ((ws.drop 1).take (ws.length - 2)).map readN, readN (ws.getLastD [])⟩
noncomputable def parseC (ws : List (List UInt8)) : Cn :=
  if ws.headD [] = [108, 101, 110] then lenC ws
  else if ws.length ≠ 3 then zeroCn
  else if ws.getD 1 [] = [61] then ⟨1, readT (ws.getD 0 []), readT (ws.getD 2 []), zeroNd, [], 0⟩
  else if ws.getD 1 [] = [33, 61] then ⟨2, readT (ws.getD 0 []), readT (ws.getD 2 []), zeroNd, [], 0⟩
  else if ws.getD 1 [] = [105, 110] then ⟨3, readT (ws.getD 0 []), [], readX (ws.getD 2 []), [], 0⟩
  else if ws.getD 1 [] = [111, 117, 116] then ⟨4, readT (ws.getD 0 []), [], readX (ws.getD 2 []), [], 0⟩
  else ⟨0, readT (ws.getD 0 []), [], zeroNd, [], 0⟩

/-- No blank. -/
def noSp (l : List UInt8) : Prop := ∀ b ∈ l, b ≠ 32
theorem noSp.app {a b : List UInt8} (h : noSp a) (h' : noSp b) : noSp (a ++ b) := fun x hx => (List.mem_append.1 hx).elim (h x) (h' x)
theorem spl_app {a b : List UInt8} (h : noSp a) : spl 32 (a ++ 32 :: b) = a :: spl 32 b := by
  have k := spl_at 32 (a ++ 32 :: b) a.length (by simp) (fun j hj e => by
    rw [List.getElem?_append_left hj] at e
    exact h 32 (List.mem_of_getElem? e) rfl)
  rw [k]
  simp
theorem noSp_letters {l : List UInt8} (h : l.all tLet = true) : noSp l := fun b hb e => by
  have := List.all_eq_true.1 h b hb
  rw [e] at this
  revert this
  decide
theorem isT_all' {l : List UInt8} (h : isT l = true) : l.all tLet = true := by
  unfold isT at h
  rw [Bool.and_eq_true] at h
  exact h.1
theorem noSp_term {l : List UInt8} (h : isT l = true) : noSp (termT l) := by
  unfold termT
  split
  · intro b hb
    simp at hb
    subst hb
    decide
  · exact noSp_letters (isT_all' h)
theorem readT_term {l : List UInt8} (h : isT l = true) : readT (termT l) = l := by
  unfold termT readT
  by_cases h0 : l = []
  · rw [if_pos h0, if_pos rfl, h0]
  · rw [if_neg h0, if_neg]
    rintro rfl
    have := isT_all' h
    revert this
    decide
theorem term_not_len {l : List UInt8} (h : isT l = true) : termT l ≠ [108, 101, 110] := by
  unfold termT
  split
  · decide
  · intro e
    have := isT_all' h
    rw [e] at this
    revert this
    decide
theorem noSp_dec (u : Nat) : noSp (Lib.decDigits u) := fun b hb e => by
  have := (digit_of_mem u b hb).1
  rw [e] at this
  revert this
  decide
theorem noSp_itoa (n : Int) : noSp (Lib.itoa n) := by
  rcases itoa_parts n with ⟨_, h⟩ | ⟨_, h⟩
  · rw [h]
    intro b hb
    rcases List.mem_cons.1 hb with rfl | hb
    · decide
    · exact noSp_dec _ b hb
  · rw [h]
    exact noSp_dec _
theorem noSp_getD {ts : List (List UInt8)} (h : ∀ t ∈ ts, noSp t) (j : Nat) : noSp (ts.getD j []) := by
  rw [List.getD_eq_getElem?_getD]
  cases hj : ts[j]? with
  | none => intro b hb; simp at hb
  | some x => exact h x (List.mem_of_getElem? hj)
theorem noSp_cons {b : UInt8} {l : List UInt8} (hb : b ≠ 32) (h : noSp l) : noSp (b :: l) := fun x hx => by
  rcases List.mem_cons.1 hx with rfl | hx
  · exact hb
  · exact h x hx
theorem noSp_nil : noSp [] := fun b hb => by simp at hb
theorem noSp_sign (k : Int) : noSp (signOf k) := by
  unfold signOf
  split
  · exact noSp_cons (by decide) noSp_nil
  · split
    · exact noSp_cons (by decide) noSp_nil
    · exact noSp_nil
theorem noSp_nodeTxt {k : Int} {l : ByteArray} {ts : List (List UInt8)} (h : ∀ t ∈ ts, noSp t) (hl : k = 3 → noSp l.data.toList) : noSp (nodeTxt k l ts) := by
  unfold nodeTxt
  split
  · exact noSp_cons (by decide) noSp_nil
  split
  · exact noSp_cons (by decide) noSp_nil
  split
  · rename_i h3
    exact hl h3
  split
  · exact noSp_cons (by decide) noSp_nil
  split
  · exact noSp_cons (by decide) (noSp_getD h 0)
  split
  · exact noSp_cons (by decide) (noSp_getD h 0)
  · exact (((noSp_cons (by decide) (noSp_getD h 0)).app (noSp_sign k)).app (noSp_getD h 1)).app (noSp_cons (by decide) noSp_nil)
theorem letter_noSp {k : Int} {l : ByteArray} {m : Nat} (h : nodeOk k l m = true) : k = 3 → noSp l.data.toList := fun h3 => by
  unfold nodeOk at h
  rw [if_pos h3] at h
  simp only [Bool.and_eq_true] at h
  have hw := h.1.2
  unfold isW at hw
  rw [Bool.and_eq_true] at hw
  intro b hb e
  have := List.all_eq_true.1 hw.1 b hb
  rw [e] at this
  revert this
  decide
theorem noSp_texts : ∀ a : Fr, allRow a = true → ∀ t ∈ texts a, noSp t
  | .nil, _, t, ht => by simp [texts] at ht
  | .cons k l a r, h, t, ht => by
    simp only [allRow, Bool.and_eq_true] at h
    obtain ⟨⟨h1, h2⟩, h3⟩ := h
    rw [texts] at ht
    rcases List.mem_cons.1 ht with rfl | ht
    · exact noSp_nodeTxt (noSp_texts a h1) (letter_noSp h2)
    · exact noSp_texts r h3 t ht
theorem noSp_rx {x : Nd} (h : validRx x.1 x.2.1 x.2.2 = true) : noSp (ndTxt x) := by
  unfold validRx at h
  simp only [Bool.and_eq_true] at h
  exact noSp_nodeTxt (noSp_texts _ h.2.1) (letter_noSp h.2.2)
theorem readX_text {x : Nd} (h : validRx x.1 x.2.1 x.2.2 = true) : readX (ndTxt x) = x := by
  obtain ⟨k, l, a⟩ := x
  unfold readX
  rw [show ndTxt (k, l, a) = nodeTxt k l (texts a) from rfl, parseAll_text h]
  rfl
theorem spl_three {a b d : List UInt8} (ha : noSp a) (hb : noSp b) (hd : noSp d) : spl 32 (a ++ 32 :: (b ++ 32 :: d)) = [a, b, d] := by
  rw [spl_app ha, spl_app hb, spl_none 32 d hd]
theorem cn_ext {c : Cn} {k : Int} {l r : List UInt8} {x : Nd} {cs : List Int} {b : Int} (h1 : c.k = k) (h2 : c.l = l) (h3 : c.r = r) (h4 : c.x = x) (h5 : c.cs = cs) (h6 : c.b = b) : c = ⟨k, l, r, x, cs, b⟩ := by
  cases c
  simp_all
/-- The text of a valid constraint is read as the constraint. -/
theorem isZ_zero {x : Nd} (h : isZ x = true) : x = zeroNd := by
  obtain ⟨k, l, a⟩ := x
  unfold isZ at h
  simp only [Bool.and_eq_true, decide_eq_true_eq] at h
  obtain ⟨⟨h1, h2⟩, h3⟩ := h
  have e2 : l = ⟨#[]⟩ := by
    apply ByteArray.ext
    exact Array.eq_empty_of_size_eq_zero h2
  have e3 : a = .nil := by
    cases a with
    | nil => rfl
    | cons k l a r => simp [Fr.items] at h3
  rw [h1, e2, e3]
  rfl
theorem parse_fmt {c : Cn} (h : validC c = true) : parseC (spl 32 (fmtC c)) = c := by
  have hf : fmtC c = bodyT c := if_pos h
  rw [hf]
  unfold validC at h
  unfold bodyT
  by_cases h1 : c.k = 1
  · rw [if_pos (Or.inl h1)] at h
    simp only [Bool.and_eq_true, decide_eq_true_eq] at h
    obtain ⟨⟨⟨hl, hr⟩, hx⟩, hc, hb⟩ := h
    rw [if_pos h1, show termT c.l ++ [32, 61, 32] ++ termT c.r = termT c.l ++ 32 :: ([61] ++ 32 :: termT c.r) by simp, spl_three (noSp_term hl) (noSp_cons (by decide) noSp_nil) (noSp_term hr)]
    unfold parseC
    rw [if_neg (by simpa using term_not_len hl), if_neg (by simp), if_pos (by rfl)]
    refine (cn_ext h1 ?_ ?_ (isZ_zero hx) (List.length_eq_zero_iff.1 hc) hb).symm
    · exact (readT_term hl).symm
    · exact (readT_term hr).symm
  · by_cases h2 : c.k = 2
    · rw [if_pos (Or.inr h2)] at h
      simp only [Bool.and_eq_true, decide_eq_true_eq] at h
      obtain ⟨⟨⟨hl, hr⟩, hx⟩, hc, hb⟩ := h
      rw [if_neg h1, if_pos h2, show termT c.l ++ [32, 33, 61, 32] ++ termT c.r = termT c.l ++ 32 :: ([33, 61] ++ 32 :: termT c.r) by simp, spl_three (noSp_term hl) (noSp_cons (by decide) (noSp_cons (by decide) noSp_nil)) (noSp_term hr)]
      unfold parseC
      rw [if_neg (by simpa using term_not_len hl), if_neg (by simp), if_neg (by simp), if_pos (by rfl)]
      refine (cn_ext h2 ?_ ?_ (isZ_zero hx) (List.length_eq_zero_iff.1 hc) hb).symm
      · exact (readT_term hl).symm
      · exact (readT_term hr).symm
    · rw [if_neg (by omega)] at h
      by_cases h3 : c.k = 3
      · rw [if_pos (Or.inl h3)] at h
        simp only [Bool.and_eq_true, decide_eq_true_eq] at h
        obtain ⟨⟨⟨hl, hr⟩, hx⟩, hc, hb⟩ := h
        rw [if_neg h1, if_neg h2, if_pos h3, show termT c.l ++ [32, 105, 110, 32] ++ ndTxt c.x = termT c.l ++ 32 :: ([105, 110] ++ 32 :: ndTxt c.x) by simp, spl_three (noSp_term hl) (noSp_cons (by decide) (noSp_cons (by decide) noSp_nil)) (noSp_rx hx)]
        unfold parseC
        rw [if_neg (by simpa using term_not_len hl), if_neg (by simp), if_neg (by simp), if_neg (by simp), if_pos (by rfl)]
        refine (cn_ext h3 ?_ (List.length_eq_zero_iff.1 hr) ?_ (List.length_eq_zero_iff.1 hc) hb).symm
        · exact (readT_term hl).symm
        · exact (readX_text hx).symm
      · by_cases h4 : c.k = 4
        · rw [if_pos (Or.inr h4)] at h
          simp only [Bool.and_eq_true, decide_eq_true_eq] at h
          obtain ⟨⟨⟨hl, hr⟩, hx⟩, hc, hb⟩ := h
          rw [if_neg h1, if_neg h2, if_neg h3, if_pos h4, show termT c.l ++ [32, 111, 117, 116, 32] ++ ndTxt c.x = termT c.l ++ 32 :: ([111, 117, 116] ++ 32 :: ndTxt c.x) by simp, spl_three (noSp_term hl) (noSp_cons (by decide) (noSp_cons (by decide) (noSp_cons (by decide) noSp_nil))) (noSp_rx hx)]
          unfold parseC
          rw [if_neg (by simpa using term_not_len hl), if_neg (by simp), if_neg (by simp), if_neg (by simp), if_neg (by simp), if_pos (by rfl)]
          refine (cn_ext h4 ?_ (List.length_eq_zero_iff.1 hr) ?_ (List.length_eq_zero_iff.1 hc) hb).symm
          · exact (readT_term hl).symm
          · exact (readX_text hx).symm
        · rw [if_neg (by omega)] at h
          by_cases h5 : c.k = 5
          · rw [if_pos h5] at h
            simp only [Bool.and_eq_true, decide_eq_true_eq] at h
            obtain ⟨⟨⟨⟨hl, hr⟩, hx⟩, hcs, h3'⟩, hb⟩ := h
            obtain ⟨k, l, r, x, cs, b⟩ := c
            simp only at h1 h2 h3 h4 h5 hl hr hx hcs h3' hb ⊢
            match cs, h3' with
            | [a, d, e], _ =>
              simp only [List.all_cons, List.all_nil, Bool.and_true, Bool.and_eq_true, inR, decide_eq_true_eq] at hcs hb
              obtain ⟨⟨a1, a2⟩, ⟨d1, d2⟩, e1, e2⟩ := hcs
              rw [if_neg h1, if_neg h2, if_neg h3, if_neg h4, show [108, 101, 110] ++ numsT [a, d, e] ++ 32 :: Lib.itoa b = [108, 101, 110] ++ 32 :: (Lib.itoa a ++ 32 :: (Lib.itoa d ++ 32 :: (Lib.itoa e ++ 32 :: Lib.itoa b))) by simp [numsT]]
              rw [spl_app (noSp_cons (by decide) (noSp_cons (by decide) (noSp_cons (by decide) noSp_nil))), spl_app (noSp_itoa a), spl_app (noSp_itoa d), spl_app (noSp_itoa e), spl_none 32 _ (noSp_itoa b)]
              unfold parseC
              rw [if_pos (by rfl)]
              unfold lenC
              simp only [List.drop, List.take, List.map, List.length, List.getLastD, List.getLast]
              rw [readN_itoa (by omega) (by omega), readN_itoa (by omega) (by omega), readN_itoa (by omega) (by omega), readN_itoa (by omega) (by omega)]
              rw [h5, List.length_eq_zero_iff.1 hl, List.length_eq_zero_iff.1 hr, isZ_zero hx]
          · rw [if_neg h5] at h
            cases h
theorem fmtC_ne {c : Cn} (h : validC c = true) : fmtC c ≠ [] := by
  unfold fmtC
  rw [if_pos h]
  unfold bodyT
  repeat' split
  all_goals simp
end Go.Proofs.YtjjjdieljljcoaaGreatDoor

/-
  Plain facts on joining rows of bytes, of no program.
-/
namespace Go.Proofs.YtjjjdieljljcoaaGreatDoor
open Go.Lib
theorem join_snoc (x sep : List UInt8) : ∀ l : List (List UInt8), l ≠ [] → join (l ++ [x]) sep = join l sep ++ sep ++ x
  | [], h => absurd rfl h
  | a :: r, _ => by
    rw [List.cons_append, join_cons, join_cons]
    simp [joinTail, List.append_assoc]

theorem join_step {ps : List (List UInt8)} {sep x : List UInt8} {k : Nat} (h : ps[k]? = some x) (hk : 0 < k) : join (ps.take (k + 1)) sep = join (ps.take k) sep ++ sep ++ x := by
  rw [List.take_add_one, h]
  refine join_snoc x sep _ (fun e => ?_)
  have hl : k < ps.length := (List.getElem?_eq_some_iff.1 h).1
  have h0 := congrArg List.length e
  rw [List.length_take, List.length_nil] at h0
  omega
theorem join_first {ps : List (List UInt8)} {sep x : List UInt8} (h : ps[0]? = some x) : join (ps.take 1) sep = x := by
  cases ps with
  | nil => simp at h
  | cons a r =>
    simp at h
    subst h
    simp [join_one]

theorem join_take_le (ps : List (List UInt8)) (sep : List UInt8) (k : Nat) : (join (ps.take k) sep).length ≤ (join ps sep).length := by
  cases ps with
  | nil => simp
  | cons a r =>
    cases k with
    | zero => simp [join_nil]
    | succ k =>
      rw [List.take_succ_cons, join_cons, join_cons]
      have := joinTail_take_le sep r k
      simp
      omega

/-- What Join answers: the joined bytes, none where they are too many. -/
def joined (ps : List (List UInt8)) (sep : List UInt8) : List UInt8 := if (join ps sep).length ≤ 1048576 then join ps sep else []
theorem joined_yes {ps : List (List UInt8)} {sep : List UInt8} (h : (join ps sep).length ≤ 1048576) : joined ps sep = join ps sep := if_pos h
theorem joined_no {ps : List (List UInt8)} {sep : List UInt8} (h : ¬ (join ps sep).length ≤ 1048576) : joined ps sep = [] := if_neg h
theorem elem_le_lens {ps : List (List UInt8)} {k : Nat} {x : List UInt8} (h : ps[k]? = some x) : x.length ≤ lens ps := by
  have h1 := lens_take_succ ps k x h
  have h2 := lens_take_le ps (k + 1)
  omega
end Go.Proofs.YtjjjdieljljcoaaGreatDoor

/-
  Plain facts on terms with values: replacing a variable by its word does not change the word of a term; how long the text of values is. Of no program.
-/
namespace Go.Proofs.YtjjjdieljljcoaaGreatDoor
open Go.RowKit
theorem limB_id {l : List UInt8} (h : l.length ≤ 1048576) : limB l = l := if_pos h
theorem sub_le {f : UInt8 → List UInt8} {m : Nat} (h : ∀ b, (f b).length ≤ m) : ∀ l : List UInt8, (subL f l).length ≤ l.length * m
  | [] => by simp [subL]
  | b :: r => by
    have h1 := h b
    have h2 := sub_le h r
    unfold subL at h2 ⊢
    rw [List.flatMap_cons, List.length_append, List.length_cons, Nat.add_mul]
    omega
theorem sub_sub (f g : UInt8 → List UInt8) : ∀ l : List UInt8, subL g (subL f l) = subL (fun b => subL g (f b)) l
  | [] => rfl
  | b :: r => by
    have h := sub_sub f g r
    unfold subL at h ⊢
    rw [List.flatMap_cons, List.flatMap_append, h, List.flatMap_cons]
theorem sub_congr {f g : UInt8 → List UInt8} (h : ∀ b, f b = g b) (l : List UInt8) : subL f l = subL g l := by
  rw [show f = g from funext h]
theorem isW_letters {l : List UInt8} (h : isW l = true) : ∀ b ∈ l, isLetter b = true := by
  unfold isW at h
  rw [Bool.and_eq_true] at h
  exact List.all_eq_true.1 h.1
theorem app_letters {x y z : ByteArray} : ∀ {l : List UInt8}, (∀ b ∈ l, isLetter b = true) → subL (appF x y z) l = l
  | [], _ => rfl
  | b :: r, h => by
    have h1 := h b (List.mem_cons_self ..)
    have h2 : isVarB b = false := by
      obtain ⟨_, h3, h4⟩ := letIdx_yes h1
      simp [isVarB]
      omega
    have ih := app_letters (x := x) (y := y) (z := z) (l := r) (fun c hc => h c (List.mem_cons_of_mem _ hc))
    unfold subL at ih ⊢
    rw [List.flatMap_cons, ih]
    unfold appF
    rw [h2]
    rfl
theorem val_word {x y z : ByteArray} (h : isV x y z = true) (b : UInt8) : isW (valB x y z b).data.toList = true := by
  unfold isV at h
  rw [Bool.and_eq_true, Bool.and_eq_true] at h
  obtain ⟨⟨h1, h2⟩, h3⟩ := h
  unfold valB
  split
  · exact h1
  · split
    · exact h2
    · split
      · exact h3
      · rfl
/-- Replacing a variable by its word does not change the word of a term. -/
theorem apply_rep {x y z : ByteArray} (h : isV x y z = true) {b0 : UInt8} (hb : isVarB b0 = true) (l : List UInt8) : subL (appF x y z) (subL (repF b0 (valB x y z b0)) l) = subL (appF x y z) l := by
  rw [sub_sub]
  refine sub_congr (fun b => ?_) l
  by_cases hbb : b = b0
  · subst hbb
    rw [show repF b (valB x y z b) b = (valB x y z b).data.toList from if_pos rfl, app_letters (isW_letters (val_word h b))]
    unfold appF
    rw [hb]
    rfl
  · rw [show repF b0 (valB x y z b0) b = [b] from if_neg hbb]
    unfold subL
    simp
theorem app_le {x y z : ByteArray} (hx : x.size ≤ 31) (hy : y.size ≤ 31) (hz : z.size ≤ 31) (b : UInt8) : (appF x y z b).length ≤ 31 := by
  unfold appF
  split
  · have := valB_le (n := 31) hx hy hz b
    simpa using this
  · simp
theorem rep_le {t : ByteArray} (ht : t.size ≤ 31) (b0 b : UInt8) : (repF b0 t b).length ≤ 31 := by
  unfold repF
  split
  · simpa using ht
  · simp
theorem varsL_cnt (l : List UInt8) {b : UInt8} (hb : b ∈ vars3) : (0 < cntL (varsL l) b) ↔ (0 < cntL l b) := by
  unfold cntL varsL
  rw [List.count_pos_iff, List.count_pos_iff, List.mem_filter]
  constructor
  · rintro ⟨_, h⟩
    simpa using h
  · intro h
    exact ⟨hb, by simpa using h⟩
theorem withV_val (x y z s : ByteArray) {b : UInt8} (h : b = 88 ∨ b = 89 ∨ b = 90) : valB (if b = 88 then s else x) (if b = 89 then s else y) (if b = 90 then s else z) b = s := by
  rcases h with rfl | rfl | rfl <;> rfl
theorem varsL_eq (l : List UInt8) : varsL l = (if l.contains 88 then [88] else []) ++ ((if l.contains 89 then [89] else []) ++ (if l.contains 90 then [90] else [])) := by
  unfold varsL vars3
  simp only [List.filter_cons, List.filter_nil]
  cases l.contains 88 <;> cases l.contains 89 <;> cases l.contains 90 <;> rfl
theorem cnt3_le (l : List UInt8) : l.count 88 + l.count 89 + l.count 90 ≤ l.length := by
  induction l with
  | nil => simp
  | cons b r ih =>
    simp only [List.count_cons, List.length_cons]
    by_cases h0 : b = 88
    · subst h0
      simp
      omega
    · by_cases h1 : b = 89
      · subst h1
        simp
        omega
      · by_cases h2 : b = 90
        · subst h2
          simp
          omega
        · simp [h0, h1, h2]
          omega
theorem cont_cnt {l : List UInt8} {b : UInt8} (h : l.contains b = true) : 1 ≤ l.count b := List.count_pos_iff.2 (by simpa using h)
/-- How long the text of values is. -/
theorem fmt_len (x y z : ByteArray) (l : List UInt8) : (Lib.join (partsV x y z (varsL l)) [32]).length ≤ x.size + y.size + z.size + 3 * (varsL l).length - 1 ∧ Lib.lens (partsV x y z (varsL l)) ≤ x.size + y.size + z.size + 2 * (varsL l).length ∧ (varsL l).length ≤ l.length ∧ (varsL l).length ≤ 3 := by
  have hc := cnt3_le l
  have v0 : valB x y z 88 = x := rfl
  have v1 : valB x y z 89 = y := rfl
  have v2 : valB x y z 90 = z := rfl
  rw [varsL_eq]
  cases h0 : l.contains 88 with
  | true =>
    have k0 := cont_cnt h0
    cases h1 : l.contains 89 with
    | true =>
      have k1 := cont_cnt h1
      cases h2 : l.contains 90 with
      | true =>
        have k2 := cont_cnt h2
        simp [partsV, partV, Lib.join, Lib.lens, v0, v1, v2]
        omega
      | false =>
        simp [partsV, partV, Lib.join, Lib.lens, v0, v1]
        omega
    | false =>
      cases h2 : l.contains 90 with
      | true =>
        have k2 := cont_cnt h2
        simp [partsV, partV, Lib.join, Lib.lens, v0, v2]
        omega
      | false =>
        simp [partsV, partV, Lib.join, Lib.lens, v0]
        omega
  | false =>
    cases h1 : l.contains 89 with
    | true =>
      have k1 := cont_cnt h1
      cases h2 : l.contains 90 with
      | true =>
        have k2 := cont_cnt h2
        simp [partsV, partV, Lib.join, Lib.lens, v1, v2]
        omega
      | false =>
        simp [partsV, partV, Lib.join, Lib.lens, v1]
        omega
    | false =>
      cases h2 : l.contains 90 with
      | true =>
        have k2 := cont_cnt h2
        simp [partsV, partV, Lib.join, Lib.lens, v2]
        omega
      | false => simp [partsV, Lib.join, Lib.lens]
end Go.Proofs.YtjjjdieljljcoaaGreatDoor

/-
  Which parts of a word belong to the language of an expression: by places, and by words; the derivative. Of no function of the program.
-/
namespace Go.Proofs.YtjjjdieljljcoaaGreatDoor
open Go.RowKit
/-- Whether the part between two places belongs to a language. -/
abbrev Mt := Nat → Nat → Bool
def botM : Mt := fun _ _ => false
def starN (p : Mt) : Nat → Mt
  | 0, i, j => decide (i = j)
  | f + 1, i, j => decide (i = j) || (List.range (j - i)).any fun d => p i (i + d + 1) && starN p f (i + d + 1) j
def starM (p : Mt) (i j : Nat) : Bool := starN p (j - i) i j
def catM (p q : Mt) (i j : Nat) : Bool := (List.range (j + 1 - i)).any fun d => p i (i + d) && q (i + d) j
/-- The part from i to j. -/
def part (s : List UInt8) (i j : Nat) : List UInt8 := (s.drop i).take (j - i)
def nodeM (s : List UInt8) (k : Int) (l : List UInt8) (ms : List Mt) : Mt := fun i j =>
  if k = 2 then decide (i = j) else if k = 3 then decide (part s i j = l) else if k = 4 then decide (j = i + 1)
  else if k = 5 then catM (ms.getD 0 botM) (ms.getD 1 botM) i j
  else if k = 6 then ms.getD 0 botM i j || ms.getD 1 botM i j
  else if k = 7 then ms.getD 0 botM i j && ms.getD 1 botM i j
  else if k = 8 then starM (ms.getD 0 botM) i j
  else if k = 9 then !(ms.getD 0 botM i j) else false
def mts (s : List UInt8) : Fr → List Mt
  | .nil => []
  | .cons k l a r => nodeM s k l.data.toList (mts s a) :: mts s r
theorem mts_items (s : List UInt8) : ∀ f : Fr, mts s f = f.items.map fun x => nodeM s x.1 x.2.1.data.toList (mts s x.2.2)
  | .nil => rfl
  | .cons k l a r => by simp [mts, Fr.items, mts_items s r]
theorem mts_len (s : List UInt8) (f : Fr) : (mts s f).length = f.items.length := by rw [mts_items]; simp
theorem mts_at {s : List UInt8} {f : Fr} {j : Nat} {k : Int} {l : ByteArray} {a : Fr} (h : f.items[j]? = some (k, l, a)) : (mts s f).getD j botM = nodeM s k l.data.toList (mts s a) := by
  rw [mts_items, List.getD_eq_getElem?_getD, List.getElem?_map, h]
  rfl

/-- A way from place to place, each part in the language. -/
inductive Path (p : Mt) : Nat → Nat → Prop
  | refl (i : Nat) : Path p i i
  | step {i m j : Nat} : i < m → p i m = true → Path p m j → Path p i j
theorem Path.le {p : Mt} : ∀ {i j : Nat}, Path p i j → i ≤ j
  | _, _, .refl _ => Nat.le_refl _
  | _, _, .step h _ r => Nat.le_trans (Nat.le_of_lt h) r.le
theorem Path.snoc {p : Mt} : ∀ {i m j : Nat}, Path p i m → m < j → p m j = true → Path p i j
  | _, _, _, .refl _, h, hp => .step h hp (.refl _)
  | _, _, _, .step h hp r, h', hp' => .step h hp (r.snoc h' hp')
theorem Path.last {p : Mt} : ∀ {i j : Nat}, Path p i j → i = j ∨ ∃ m, i ≤ m ∧ m < j ∧ Path p i m ∧ p m j = true
  | _, _, .refl _ => .inl rfl
  | i, j, .step (m := m) h hp r => by
    rcases r.last with e | ⟨x, h1, h2, h3, h4⟩
    · exact .inr ⟨i, Nat.le_refl _, by omega, .refl _, by rw [← e]; exact hp⟩
    · exact .inr ⟨x, by omega, h2, .step h hp h3, h4⟩
theorem starN_iff (p : Mt) : ∀ (f i j : Nat), j - i ≤ f → (starN p f i j = true ↔ Path p i j)
  | 0, i, j, h => by
    simp only [starN, decide_eq_true_eq]
    constructor
    · rintro rfl
      exact .refl _
    · intro hp
      have := hp.le
      omega
  | f + 1, i, j, h => by
    simp only [starN, Bool.or_eq_true, decide_eq_true_eq, List.any_eq_true, List.mem_range, Bool.and_eq_true]
    constructor
    · rintro (rfl | ⟨d, hd, h1, h2⟩)
      · exact .refl _
      · exact .step (by omega) h1 ((starN_iff p f _ _ (by omega)).1 h2)
    · intro hp
      cases hp with
      | refl => exact .inl rfl
      | step h1 h2 h3 =>
        rename_i m
        have := h3.le
        refine .inr ⟨m - i - 1, by omega, ?_, ?_⟩
        · rw [show i + (m - i - 1) + 1 = m by omega]; exact h2
        · rw [show i + (m - i - 1) + 1 = m by omega]; exact (starN_iff p f _ _ (by omega)).2 h3
theorem starM_iff {p : Mt} {i j : Nat} : starM p i j = true ↔ Path p i j := starN_iff p _ i j (Nat.le_refl _)
theorem starM_self (p : Mt) (i : Nat) : starM p i i = true := starM_iff.2 (.refl i)
theorem starM_no {p : Mt} {i j : Nat} (h : i ≠ j) (hn : ∀ m, i < m → m ≤ j → (p i m && starM p m j) = false) : starM p i j = false := by
  rw [← Bool.not_eq_true]
  intro ht
  cases starM_iff.1 ht with
  | refl => exact h rfl
  | step h1 h2 h3 =>
    have := hn _ h1 h3.le
    rw [h2, starM_iff.2 h3] at this
    exact absurd this (by decide)
theorem starM_yes {p : Mt} {i m j : Nat} (h : i < m) (h1 : p i m = true) (h2 : starM p m j = true) : starM p i j = true := starM_iff.2 (.step h h1 (starM_iff.1 h2))
theorem starM_snoc {p : Mt} {i m j : Nat} (h : m < j) (h1 : starM p i m = true) (h2 : p m j = true) : starM p i j = true := starM_iff.2 ((starM_iff.1 h1).snoc h h2)
theorem starM_none {p : Mt} {i j : Nat} (h : i ≠ j) (hn : ∀ m, i ≤ m → m < j → (starM p i m && p m j) = false) : starM p i j = false := by
  rw [← Bool.not_eq_true]
  intro ht
  rcases (starM_iff.1 ht).last with e | ⟨m, h1, h2, h3, h4⟩
  · exact h e
  · have := hn m h1 h2
    rw [starM_iff.2 h3, h4] at this
    exact absurd this (by decide)
theorem catM_yes {p q : Mt} {i m j : Nat} (h1 : i ≤ m) (h2 : m ≤ j) (h : (p i m && q m j) = true) : catM p q i j = true := by
  simp only [catM, List.any_eq_true, List.mem_range]
  refine ⟨m - i, by omega, ?_⟩
  rw [show i + (m - i) = m by omega]
  exact h
theorem catM_no {p q : Mt} {i j : Nat} (hn : ∀ m, i ≤ m → m ≤ j → (p i m && q m j) = false) : catM p q i j = false := by
  simp only [catM, List.any_eq_false, List.mem_range, Bool.not_eq_true]
  exact fun d hd => hn _ (by omega) (by omega)
end Go.Proofs.YtjjjdieljljcoaaGreatDoor

/-
  Constraints with strings as byte arrays: which are valid, what holds, their variables, their text; what a text is read as, one form at a time; a valid constraint is the only one with its text. Of no function of the program.
-/
namespace Go.Proofs.YtjjjdieljljcoaaGreatDoor
open Go.RowKit

structure Cx where
  k : Int
  l : ByteArray
  r : ByteArray
  xk : Int
  xl : ByteArray
  xa : Fr
  cs : List Int
  b : Int
def zeroX : Cx := ⟨0, ⟨#[]⟩, ⟨#[]⟩, 0, ⟨#[]⟩, .nil, [], 0⟩
def Cx.cn (c : Cx) : Cn := ⟨c.k, c.l.data.toList, c.r.data.toList, (c.xk, c.xl, c.xa), c.cs, c.b⟩
theorem bytes_eq {a b : ByteArray} (h : a.data.toList = b.data.toList) : a = b := by
  cases a; cases b
  simp only [ByteArray.mk.injEq]
  exact Array.toList_inj.1 h
theorem Cx.cn_inj {c d : Cx} (h : c.cn = d.cn) : c = d := by
  have h1 : c.k = d.k := congrArg Cn.k h
  have h2 : c.l = d.l := bytes_eq (congrArg Cn.l h)
  have h3 : c.r = d.r := bytes_eq (congrArg Cn.r h)
  have h4 : c.xk = d.xk := congrArg (fun x => x.x.1) h
  have h5 : c.xl = d.xl := congrArg (fun x => x.x.2.1) h
  have h6 : c.xa = d.xa := congrArg (fun x => x.x.2.2) h
  have h7 : c.cs = d.cs := congrArg Cn.cs h
  have h8 : c.b = d.b := congrArg Cn.b h
  cases c
  cases d
  simp only at h1 h2 h3 h4 h5 h6 h7 h8
  subst h1 h2 h3 h4 h5 h6 h7 h8
  rfl
theorem zeroX_cn : zeroX.cn = zeroCn := rfl
def validX (c : Cx) : Bool := validC c.cn
def fmtX (c : Cx) : List UInt8 := fmtC c.cn
/-- The words that a valid constraint's text consists of. -/
def wordsC (c : Cn) : List (List UInt8) :=
  if c.k = 1 then [termT c.l, [61], termT c.r]
  else if c.k = 2 then [termT c.l, [33, 61], termT c.r]
  else if c.k = 3 then [termT c.l, [105, 110], ndTxt c.x]
  else if c.k = 4 then [termT c.l, [111, 117, 116], ndTxt c.x]
  else [108, 101, 110] :: (c.cs.map Lib.itoa ++ [Lib.itoa c.b])
/-- What a form reads out of the words. -/
noncomputable def readC (k : Int) (ws : List (List UInt8)) : Cn :=
  if k = 1 ∨ k = 2 then (if ws.length ≠ 3 then zeroCn else ⟨k, readT (ws.getD 0 []), readT (ws.getD 2 []), zeroNd, [], 0⟩)
  else if k = 3 ∨ k = 4 then (if ws.length ≠ 3 then zeroCn else ⟨k, readT (ws.getD 0 []), [], readX (ws.getD 2 []), [], 0⟩)
  else (if ws.length ≠ 5 then zeroCn else ⟨k, [], [], zeroNd, [readN (ws.getD 1 []), readN (ws.getD 2 []), readN (ws.getD 3 [])], readN (ws.getD 4 [])⟩)
theorem valid_kinds {c : Cn} (h : validC c = true) : c.k = 1 ∨ c.k = 2 ∨ c.k = 3 ∨ c.k = 4 ∨ c.k = 5 := by
  unfold validC at h
  by_cases h12 : c.k = 1 ∨ c.k = 2
  · rcases h12 with h | h <;> simp [h]
  · rw [if_neg h12] at h
    by_cases h34 : c.k = 3 ∨ c.k = 4
    · rcases h34 with h | h <;> simp [h]
    · rw [if_neg h34] at h
      by_cases h5 : c.k = 5
      · simp [h5]
      · rw [if_neg h5] at h
        cases h
/-- What a valid constraint of the first two forms has. -/
theorem valid_terms {c : Cn} (h : validC c = true) (hk : c.k = 1 ∨ c.k = 2) : isT c.l = true ∧ isT c.r = true ∧ c.x = zeroNd ∧ c.cs = [] ∧ c.b = 0 := by
  unfold validC at h
  rw [if_pos hk] at h
  simp only [Bool.and_eq_true, decide_eq_true_eq] at h
  obtain ⟨⟨⟨hl, hr⟩, hx⟩, hc, hb⟩ := h
  exact ⟨hl, hr, isZ_zero hx, List.length_eq_zero_iff.1 hc, hb⟩
theorem valid_lang {c : Cn} (h : validC c = true) (hk : c.k = 3 ∨ c.k = 4) : isT c.l = true ∧ c.r = [] ∧ validRx c.x.1 c.x.2.1 c.x.2.2 = true ∧ c.cs = [] ∧ c.b = 0 := by
  unfold validC at h
  rw [if_neg (by omega), if_pos hk] at h
  simp only [Bool.and_eq_true, decide_eq_true_eq] at h
  obtain ⟨⟨⟨hl, hr⟩, hx⟩, hc, hb⟩ := h
  exact ⟨hl, List.length_eq_zero_iff.1 hr, hx, List.length_eq_zero_iff.1 hc, hb⟩
theorem valid_len {c : Cn} (h : validC c = true) (hk : c.k = 5) : c.l = [] ∧ c.r = [] ∧ c.x = zeroNd ∧ (∃ a d e, c.cs = [a, d, e] ∧ (-9 ≤ a ∧ a ≤ 9) ∧ (-9 ≤ d ∧ d ≤ 9) ∧ (-9 ≤ e ∧ e ≤ 9)) ∧ -99 ≤ c.b ∧ c.b ≤ 99 := by
  unfold validC at h
  rw [if_neg (by omega), if_neg (by omega), if_pos hk] at h
  simp only [Bool.and_eq_true, decide_eq_true_eq] at h
  obtain ⟨⟨⟨⟨hl, hr⟩, hx⟩, hcs, h3'⟩, hb⟩ := h
  refine ⟨List.length_eq_zero_iff.1 hl, List.length_eq_zero_iff.1 hr, isZ_zero hx, ?_, ?_⟩
  · generalize c.cs = cs at *
    match cs, h3' with
    | [a, d, e], _ =>
      simp only [List.all_cons, List.all_nil, Bool.and_true, Bool.and_eq_true, inR, decide_eq_true_eq] at hcs
      exact ⟨a, d, e, rfl, hcs.1, hcs.2.1, hcs.2.2⟩
  · simp only [inR, Bool.and_eq_true, decide_eq_true_eq] at hb
    exact hb
theorem words_fmt {c : Cn} (h : validC c = true) : spl 32 (fmtC c) = wordsC c := by
  have hf : fmtC c = bodyT c := if_pos h
  rw [hf]
  rcases valid_kinds h with hk | hk | hk | hk | hk
  · obtain ⟨hl, hr, _⟩ := valid_terms h (.inl hk)
    rw [show bodyT c = termT c.l ++ 32 :: ([61] ++ 32 :: termT c.r) by simp [bodyT, hk], show wordsC c = [termT c.l, [61], termT c.r] by simp [wordsC, hk], spl_three (noSp_term hl) (noSp_cons (by decide) noSp_nil) (noSp_term hr)]
  · obtain ⟨hl, hr, _⟩ := valid_terms h (.inr hk)
    rw [show bodyT c = termT c.l ++ 32 :: ([33, 61] ++ 32 :: termT c.r) by simp [bodyT, hk], show wordsC c = [termT c.l, [33, 61], termT c.r] by simp [wordsC, hk], spl_three (noSp_term hl) (noSp_cons (by decide) (noSp_cons (by decide) noSp_nil)) (noSp_term hr)]
  · obtain ⟨hl, _, hx, _⟩ := valid_lang h (.inl hk)
    rw [show bodyT c = termT c.l ++ 32 :: ([105, 110] ++ 32 :: ndTxt c.x) by simp [bodyT, hk], show wordsC c = [termT c.l, [105, 110], ndTxt c.x] by simp [wordsC, hk], spl_three (noSp_term hl) (noSp_cons (by decide) (noSp_cons (by decide) noSp_nil)) (noSp_rx hx)]
  · obtain ⟨hl, _, hx, _⟩ := valid_lang h (.inr hk)
    rw [show bodyT c = termT c.l ++ 32 :: ([111, 117, 116] ++ 32 :: ndTxt c.x) by simp [bodyT, hk], show wordsC c = [termT c.l, [111, 117, 116], ndTxt c.x] by simp [wordsC, hk], spl_three (noSp_term hl) (noSp_cons (by decide) (noSp_cons (by decide) (noSp_cons (by decide) noSp_nil))) (noSp_rx hx)]
  · obtain ⟨_, _, _, ⟨a, d, e, hcs, _⟩, _⟩ := valid_len h hk
    rw [show bodyT c = [108, 101, 110] ++ 32 :: (Lib.itoa a ++ 32 :: (Lib.itoa d ++ 32 :: (Lib.itoa e ++ 32 :: Lib.itoa c.b))) by simp [bodyT, hk, hcs, numsT], show wordsC c = [[108, 101, 110], Lib.itoa a, Lib.itoa d, Lib.itoa e, Lib.itoa c.b] by simp [wordsC, hk, hcs]]
    rw [spl_app (noSp_cons (by decide) (noSp_cons (by decide) (noSp_cons (by decide) noSp_nil))), spl_app (noSp_itoa a), spl_app (noSp_itoa d), spl_app (noSp_itoa e), spl_none 32 _ (noSp_itoa c.b)]
/-- The form of a valid constraint reads it out of its text. -/
theorem read_fmt {c : Cn} (h : validC c = true) : readC c.k (spl 32 (fmtC c)) = c := by
  rw [words_fmt h]
  rcases valid_kinds h with hk | hk | hk | hk | hk
  · obtain ⟨hl, hr, hx, hc, hb⟩ := valid_terms h (.inl hk)
    rw [show wordsC c = [termT c.l, [61], termT c.r] by simp [wordsC, hk], hk]
    exact (cn_ext hk (readT_term hl).symm (readT_term hr).symm hx hc hb).symm
  · obtain ⟨hl, hr, hx, hc, hb⟩ := valid_terms h (.inr hk)
    rw [show wordsC c = [termT c.l, [33, 61], termT c.r] by simp [wordsC, hk], hk]
    exact (cn_ext hk (readT_term hl).symm (readT_term hr).symm hx hc hb).symm
  · obtain ⟨hl, hr, hx, hc, hb⟩ := valid_lang h (.inl hk)
    rw [show wordsC c = [termT c.l, [105, 110], ndTxt c.x] by simp [wordsC, hk], hk]
    exact (cn_ext hk (readT_term hl).symm hr (readX_text hx).symm hc hb).symm
  · obtain ⟨hl, hr, hx, hc, hb⟩ := valid_lang h (.inr hk)
    rw [show wordsC c = [termT c.l, [111, 117, 116], ndTxt c.x] by simp [wordsC, hk], hk]
    exact (cn_ext hk (readT_term hl).symm hr (readX_text hx).symm hc hb).symm
  · obtain ⟨hl, hr, hx, ⟨a, d, e, hcs, ha, hd, he⟩, hb⟩ := valid_len h hk
    rw [show wordsC c = [[108, 101, 110], Lib.itoa a, Lib.itoa d, Lib.itoa e, Lib.itoa c.b] by simp [wordsC, hk, hcs], hk]
    refine (cn_ext hk hl hr hx ?_ ?_).symm
    · show c.cs = [readN (Lib.itoa a), readN (Lib.itoa d), readN (Lib.itoa e)]
      rw [readN_itoa (by omega) (by omega), readN_itoa (by omega) (by omega), readN_itoa (by omega) (by omega), hcs]
    · show c.b = readN (Lib.itoa c.b)
      rw [readN_itoa (by omega) (by omega)]
/-- The only valid constraint with the text, and true; the zero value and false if there is none. -/
def ParsedX (s : List UInt8) (ok : Bool) (c : Cx) : Prop := (ok = true ∧ validX c = true ∧ fmtX c = s) ∨ (ok = false ∧ c = zeroX ∧ ∀ d, validX d = true → fmtX d ≠ s)
theorem fmtX_inj {c d : Cx} (hc : validX c = true) (hd : validX d = true) (h : fmtX c = fmtX d) : c = d := by
  have h1 := parse_fmt hc
  have h2 := parse_fmt hd
  have h' : fmtC c.cn = fmtC d.cn := h
  rw [h'] at h1
  exact Cx.cn_inj (h1.symm.trans h2)
theorem ParsedX.unique {s : List UInt8} {ok ok' : Bool} {c c' : Cx} (h : ParsedX s ok c) (h' : ParsedX s ok' c') : ok = ok' ∧ c = c' := by
  rcases h with ⟨rfl, hv, hf⟩ | ⟨rfl, rfl, hn⟩ <;> rcases h' with ⟨rfl, hv', hf'⟩ | ⟨rfl, rfl, hn'⟩
  · exact ⟨rfl, fmtX_inj hv hv' (hf.trans hf'.symm)⟩
  · exact absurd hf (hn' c hv)
  · exact absurd hf' (hn c' hv')
  · exact ⟨rfl, rfl⟩

/-- What the letters of a term stand for. -/
def appL (x y z : ByteArray) (l : List UInt8) : List UInt8 := limB (subL (appF x y z) l)
/-- Whether a word belongs to the language, however long it is. -/
def inLang (k : Int) (l : ByteArray) (a : Fr) (s : List UInt8) : Bool := nodeM s k l.data.toList (mts s a) 0 s.length
def sumX (cs : List Int) (x y z : ByteArray) : Int := cs.getD 0 0 * x.size + cs.getD 1 0 * y.size + cs.getD 2 0 * z.size
def holdsX (c : Cx) (x y z : ByteArray) : Bool :=
  if c.k = 1 then decide (appL x y z c.l.data.toList = appL x y z c.r.data.toList)
  else if c.k = 2 then !decide (appL x y z c.l.data.toList = appL x y z c.r.data.toList)
  else if c.k = 3 then inLang c.xk c.xl c.xa (appL x y z c.l.data.toList)
  else if c.k = 4 then !inLang c.xk c.xl c.xa (appL x y z c.l.data.toList)
  else decide (sumX c.cs x y z ≤ c.b)
def holdsFor (c : Cx) (x y z : ByteArray) : Bool := validX c && (isV x y z && holdsX c x y z)
/-- The variables of coefficients that are not zero, from place j on. -/
def coefL : Nat → List Int → List UInt8
  | _, [] => []
  | j, a :: r => (if a ≠ 0 then [UInt8.ofNat (88 + j)] else []) ++ coefL (j + 1) r
def varsX (c : Cx) : List UInt8 := if validX c then varsL (c.l.data.toList ++ c.r.data.toList ++ coefL 0 c.cs) else []
theorem isT_len {l : List UInt8} (h : isT l = true) : l.length ≤ 12 := by
  unfold isT at h
  simp only [Bool.and_eq_true, decide_eq_true_eq] at h
  exact h.2
/-- A valid constraint's numbers. -/
theorem valid_cs {c : Cx} (h : validX c = true) : c.cs = [] ∨ ∃ a d e, c.cs = [a, d, e] ∧ (-9 ≤ a ∧ a ≤ 9) ∧ (-9 ≤ d ∧ d ≤ 9) ∧ (-9 ≤ e ∧ e ≤ 9) := by
  rcases valid_kinds (c := c.cn) h with hk | hk | hk | hk | hk
  · exact .inl (valid_terms h (.inl hk)).2.2.2.1
  · exact .inl (valid_terms h (.inr hk)).2.2.2.1
  · exact .inl (valid_lang h (.inl hk)).2.2.2.1
  · exact .inl (valid_lang h (.inr hk)).2.2.2.1
  · exact .inr (valid_len h hk).2.2.2.1
theorem valid_strs {c : Cx} (h : validX c = true) : c.l.size ≤ 12 ∧ c.r.size ≤ 12 := by
  have k : ∀ s : ByteArray, isT s.data.toList = true → s.size ≤ 12 := fun s hs => by simpa using isT_len hs
  have k0 : ∀ s : ByteArray, s.data.toList = [] → s.size ≤ 12 := fun s hs => by
    have := congrArg List.length hs
    rw [show s.data.toList.length = s.size by simp, List.length_nil] at this
    omega
  rcases valid_kinds (c := c.cn) h with hk | hk | hk | hk | hk
  · exact ⟨k _ (valid_terms h (.inl hk)).1, k _ (valid_terms h (.inl hk)).2.1⟩
  · exact ⟨k _ (valid_terms h (.inr hk)).1, k _ (valid_terms h (.inr hk)).2.1⟩
  · exact ⟨k _ (valid_lang h (.inl hk)).1, k0 _ (valid_lang h (.inl hk)).2.1⟩
  · exact ⟨k _ (valid_lang h (.inr hk)).1, k0 _ (valid_lang h (.inr hk)).2.1⟩
  · exact ⟨k0 _ (valid_len h hk).1, k0 _ (valid_len h hk).2.1⟩
theorem strL_self (s : ByteArray) : strL s.data.toList = s := bytes_eq (strL_list _)
end Go.Proofs.YtjjjdieljljcoaaGreatDoor

/-
  A slice that holds a row of expressions as a tree of its own: no block is met twice, each is an ordinary one. Of no function of the program.
-/
namespace Go.Proofs.YtjjjdieljljcoaaGreatDoor
open Go.RowKit
/-- Block g is an ordinary row of cells. -/
def Plain (w : World) (g : Nat) : Prop := ∃ cur T, w.heap[g]? = some (.cells cur T (0, 0))
theorem Plain.same {w w' : World} {g : Nat} (h : Plain w g) (hs : w'.heap[g]? = w.heap[g]?) : Plain w' g := by
  obtain ⟨cur, T, h⟩ := h
  exact ⟨cur, T, hs.trans h⟩
/-- A slice holds the row f in the blocks S, each met once. -/
def SlT (w : World) : Nat → (Nat → Prop) → Value → Fr → Prop
  | 0, _, _, _ => False
  | n + 1, S, v, f => f.items.length ≤ 9223372036854775807 ∧ ((f.items.length = 0 ∧ ∃ A c, v = .slice A 0 c) ∨ ∃ (g o c : Nat) (K : Nat → Nat → Prop), v = .slice (some ⟨g, o, none⟩) f.items.length c ∧ S g ∧ Plain w g ∧
      (∀ j h, K j h → S h ∧ h ≠ g) ∧ (∀ i j h, K i h → K j h → i = j) ∧
      ∀ j k l a, f.items[j]? = some (k, l, a) → l.size ≤ 9223372036854775807 ∧ ∃ u, ElAt w g (o + j * 3) k l u ∧ SlT w n (K j) u a)
theorem SlT.mono {w w' : World} : ∀ {n : Nat} {S S' : Nat → Prop} {v : Value} {f : Fr}, (∀ g, S g → w'.heap[g]? = w.heap[g]?) → (∀ g, S g → S' g) → SlT w n S v f → SlT w' n S' v f
  | 0, _, _, _, _, _, _, h => h
  | n + 1, S, S', v, f, hs, hS, ⟨hl, h⟩ => by
    refine ⟨hl, ?_⟩
    rcases h with h | ⟨g, o, c, K, hv, hg, hp, hK, hd, hc⟩
    · exact .inl h
    · refine .inr ⟨g, o, c, K, hv, hS g hg, hp.same (hs g hg), fun j h hj => ⟨hS h (hK j h hj).1, (hK j h hj).2⟩, hd, fun j k l a hj => ?_⟩
      obtain ⟨hl', u, he, h4⟩ := hc j k l a hj
      exact ⟨hl', u, he.same (hs g hg), h4.mono (fun h hh => hs h (hK j h hh).1) (fun _ hh => hh)⟩
theorem SlT.sl {w : World} : ∀ {n : Nat} {S : Nat → Prop} {v : Value} {f : Fr}, SlT w n S v f → SlP w S n v f
  | 0, _, _, _, h => h
  | n + 1, S, v, f, ⟨hl, h⟩ => by
    refine ⟨hl, ?_⟩
    rcases h with h | ⟨g, o, c, K, hv, hg, hp, hK, hd, hc⟩
    · exact .inl h
    · refine .inr ⟨g, o, c, hv, hg, fun j k l a hj => ?_⟩
      obtain ⟨hl', u, he, h4⟩ := hc j k l a hj
      exact ⟨hl', u, he, h4.sl.mono (fun _ _ => rfl) (fun h hh => (hK j h hh).1)⟩
theorem SlT.more {w : World} : ∀ {n : Nat} {S : Nat → Prop} {v : Value} {f : Fr}, SlT w n S v f → SlT w (n + 1) S v f
  | 0, _, _, _, h => h.elim
  | n + 1, S, v, f, ⟨hl, h⟩ => by
    refine ⟨hl, ?_⟩
    rcases h with h | ⟨g, o, c, K, hv, hg, hp, hK, hd, hc⟩
    · exact .inl h
    · refine .inr ⟨g, o, c, K, hv, hg, hp, hK, hd, fun j k l a hj => ?_⟩
      obtain ⟨hl', u, he, h4⟩ := hc j k l a hj
      exact ⟨hl', u, he, h4.more⟩
theorem SlT.shape {w : World} {n : Nat} {S : Nat → Prop} {v : Value} {f : Fr} (h : SlT w n S v f) : ∃ A c, v = .slice A f.items.length c := h.sl.shape
/-- An empty slice. -/
theorem SlT.none (w : World) (n : Nat) (S : Nat → Prop) (A : Option Addr) (c : Nat) : SlT w (n + 1) S (.slice A 0 c) .nil := ⟨by simp [Fr.items], .inl ⟨rfl, A, c, rfl⟩⟩
end Go.Proofs.YtjjjdieljljcoaaGreatDoor

/-
  What stays where only some blocks turn, and new ones. Of no function of the program.
-/
namespace Go.Proofs.YtjjjdieljljcoaaGreatDoor
open Go.RowKit
/-- Only blocks of S have turned, and new ones. -/
structure Chg (S : Nat → Prop) (w w' : World) : Prop where
  os : w'.os = w.os
  tape : w'.tape = w.tape
  output : w'.output = w.output
  size : w.heap.size ≤ w'.heap.size
  block : ∀ g, g < w.heap.size → ¬ S g → w'.heap[g]? = w.heap[g]?
theorem Chg.refl (S : Nat → Prop) (w : World) : Chg S w w := ⟨rfl, rfl, rfl, Nat.le_refl _, fun _ _ _ => rfl⟩
theorem Chg.trans {S : Nat → Prop} {a b c : World} (h : Chg S a b) (k : Chg S b c) : Chg S a c :=
  ⟨k.os.trans h.os, k.tape.trans h.tape, k.output.trans h.output, Nat.le_trans h.size k.size, fun g hg hs => (k.block g (Nat.lt_of_lt_of_le hg h.size) hs).trans (h.block g hg hs)⟩
theorem Chg.more {S S' : Nat → Prop} {w w' : World} (h : Chg S w w') (hS : ∀ g, S g → S' g) : Chg S' w w' := ⟨h.os, h.tape, h.output, h.size, fun g hg hs => h.block g hg (fun e => hs (hS g e))⟩
theorem Chg.set {S : Nat → Prop} {w w' : World} (h : Chg S w w') {a : Addr} (ha : S a.block) (v : Value) : Chg S w (w'.setCell a v) :=
  ⟨h.os, h.tape, h.output, by simpa [World.setCell] using h.size, fun g hg hs => (Below.heap_setCell _ _ _ g (fun e => hs (by rw [e]; exact ha))).trans (h.block g hg hs)⟩
theorem Chg.below {S : Nat → Prop} {w w' w2 : World} (h : Chg S w w') (hb : Below w'.heap.size w' w2) : Chg S w w2 :=
  ⟨hb.os.trans h.os, hb.tape.trans h.tape, hb.output.trans h.output, Nat.le_trans h.size hb.size, fun g hg hs => (hb.block g (Nat.lt_of_lt_of_le hg h.size)).trans (h.block g hg hs)⟩
/-- In blocks of the call's own. -/
def OwnB (w w' : World) (g : Nat) : Prop := w.heap.size ≤ g ∧ g < w'.heap.size
theorem Chg.cell {S : Nat → Prop} {w w' : World} (h : Chg S w w') {p : Addr} (hp : p.block < w.heap.size) (hn : ¬ S p.block) : w'.cell? p = w.cell? p := World.cell?_of_block (h.block p.block hp hn)
theorem Chg.old {S : Nat → Prop} {w w' : World} (h : Chg S w w') {B : Nat} (hS : ∀ g, S g → B ≤ g) (hB : B ≤ w.heap.size) : Below B w w' :=
  ⟨h.os, h.tape, h.output, h.size, fun g hg => h.block g (Nat.lt_of_lt_of_le hg hB) (fun hs => Nat.lt_irrefl _ (Nat.lt_of_lt_of_le hg (hS g hs)))⟩
end Go.Proofs.YtjjjdieljljcoaaGreatDoor

/-
  What is left of a number. Of no function of the program.
-/
namespace Go.Proofs.YtjjjdieljljcoaaGreatDoor
open Go.RowKit
/-- What is left. -/
def leftOf (m : Nat) (z : Int) : Int := if (m : Int) ≤ z then z - m else -1
theorem leftOf_yes {m : Nat} {z : Int} (h : (m : Int) ≤ z) : leftOf m z = z - m := by unfold leftOf; rw [if_pos h]
theorem leftOf_no {m : Nat} {z : Int} (h : ¬ (m : Int) ≤ z) : leftOf m z = -1 := by unfold leftOf; rw [if_neg h]
def SzPost (m : Nat) (z : Int) (w : World) (e : Ending) (w' : World) : Prop := e = .returned (.int .i64 (leftOf m z)) ∧ Below w.heap.size w w'
end Go.Proofs.YtjjjdieljljcoaaGreatDoor

/-
  Rows of one-cell elements behind a slice: as they came in, and in blocks of the call's own. Of no function of the program.
  What the laws' own helpers answer over slices of bools: szBoolS, toBoolS, eqBoolS, markBoolS, heldBoolS.
  What the laws' own helpers answer over slices of ints: szIntS, toIntS, eqIntS, markIntS, heldIntS.
  Rows of rows behind a slice: as they came in, and in blocks of the call's own. Of no function of the program.
  What the laws' own helpers answer over slices of slices of ints: szIntSS, toIntSS, eqIntSS, markIntSS, heldIntSS.
  Boxes of two cells. Of no function of the program.
  What the laws' own helpers answer over automata: szDfa, toDfa, eqDfa, markDfa, heldDfa.
  What stays of automata and boxes over calls, for the walks of exact laws. Of no function of the program.
-/
namespace Go.Proofs.YtjjjdieljljcoaaGreatDoor
open Go.RowKit
/-- What lies behind a slice; its block is in S. -/
def RowV (w : World) (S : Nat → Prop) (v : Value) (xs : List Value) : Prop :=
  xs.length ≤ 9223372036854775807 ∧ ∃ A c, v = .slice A xs.length c ∧ ∀ (j : Nat) (x : Value), xs[j]? = some x → ∃ ad, A = some ad ∧ S ad.block ∧ w.cell? (ad.add j) = some x
theorem add_block (a : Addr) (n : Nat) : (a.add n).block = a.block := by unfold Addr.add; split <;> rfl
theorem RowV.mono {w w' : World} {S S' : Nat → Prop} {v : Value} {xs : List Value} (h : RowV w S v xs) (hs : ∀ g, S g → w'.heap[g]? = w.heap[g]?) (hS : ∀ g, S g → S' g) : RowV w' S' v xs := by
  obtain ⟨hl, A, c, rfl, hc⟩ := h
  refine ⟨hl, A, c, rfl, fun j x hx => ?_⟩
  obtain ⟨ad, rfl, hb, hce⟩ := hc j x hx
  exact ⟨ad, rfl, hS _ hb, (World.cell?_of_block (by rw [add_block]; exact hs _ hb)).trans hce⟩
theorem RowV.below {w w' : World} {B B' : Nat} {v : Value} {xs : List Value} (h : RowV w (· < B) v xs) (hb : Below B w w') (hB : B ≤ B') : RowV w' (· < B') v xs :=
  h.mono (fun g hg => hb.block g hg) (fun _ hg => Nat.lt_of_lt_of_le hg hB)
theorem cell_in {w : World} {p : Addr} {u : Value} (h : w.cell? p = some u) : p.block < w.heap.size := by
  by_cases hl : p.block < w.heap.size
  · exact hl
  · have : w.heap[p.block]? = none := Array.getElem?_eq_none (by omega)
    simp [World.cell?, this] at h
/-- Over a call that turns nothing old. -/
theorem RowV.kept {w w' : World} {S : Nat → Prop} {v : Value} {xs : List Value} (h : RowV w S v xs) (hb : Below w.heap.size w w') : RowV w' S v xs := by
  obtain ⟨hl, A, c, rfl, hc⟩ := h
  refine ⟨hl, A, c, rfl, fun j x hx => ?_⟩
  obtain ⟨ad, rfl, hS, hce⟩ := hc j x hx
  have hlt := cell_in hce
  exact ⟨ad, rfl, hS, (hb.cell hlt).trans hce⟩
theorem RowV.shape {w : World} {S : Nat → Prop} {v : Value} {xs : List Value} (h : RowV w S v xs) : ∃ A c, v = .slice A xs.length c := by
  obtain ⟨_, A, c, h, _⟩ := h
  exact ⟨A, c, h⟩
/-- One element's cell. -/
theorem RowV.at {w : World} {S : Nat → Prop} {A : Option Addr} {n c : Nat} {xs : List Value} (h : RowV w S (.slice A n c) xs) {j : Nat} (hj : j < xs.length) : ∃ ad, A = some ad ∧ S ad.block ∧ w.cell? (ad.add j) = some xs[j] := by
  obtain ⟨_, A', c', e, hc⟩ := h
  cases e
  exact hc j _ (List.getElem?_eq_getElem hj)

/-- .. in a block of its own. -/
def RowO (w : World) (S : Nat → Prop) (v : Value) (xs : List Value) : Prop :=
  xs.length ≤ 9223372036854775807 ∧ ∃ A c, v = .slice A xs.length c ∧ (xs = [] ∨ ∃ (g : Nat) (cur : Array Value) (T : TypeId), A = some ⟨g, 0, none⟩ ∧ S g ∧ w.heap[g]? = some (.cells cur T (0, 0)) ∧ ∀ (j : Nat) (x : Value), xs[j]? = some x → cur[j]? = some x)
theorem RowO.row {w : World} {S : Nat → Prop} {v : Value} {xs : List Value} (h : RowO w S v xs) : RowV w S v xs := by
  obtain ⟨hl, A, c, rfl, hc⟩ := h
  refine ⟨hl, A, c, rfl, fun j x hx => ?_⟩
  rcases hc with rfl | ⟨g, cur, T, rfl, hg, hh, hx'⟩
  · simp at hx
  · exact ⟨_, rfl, hg, by rw [Addr.add_lit, Nat.zero_add, cell_of_row w g j cur T (0, 0) hh]; exact hx' j x hx⟩
theorem RowO.mono {w w' : World} {S S' : Nat → Prop} {v : Value} {xs : List Value} (h : RowO w S v xs) (hs : ∀ g, S g → w'.heap[g]? = w.heap[g]?) (hS : ∀ g, S g → S' g) : RowO w' S' v xs := by
  obtain ⟨hl, A, c, rfl, hc⟩ := h
  refine ⟨hl, A, c, rfl, ?_⟩
  rcases hc with rfl | ⟨g, cur, T, rfl, hg, hh, hx'⟩
  · exact .inl rfl
  · exact .inr ⟨g, cur, T, rfl, hS g hg, (hs g hg).trans hh, hx'⟩
theorem RowO.shape {w : World} {S : Nat → Prop} {v : Value} {xs : List Value} (h : RowO w S v xs) : ∃ A c, v = .slice A xs.length c := h.row.shape
theorem RowO.nil (w : World) (S : Nat → Prop) (A : Option Addr) (c : Nat) : RowO w S (.slice A 0 c) [] := ⟨Nat.zero_le _, A, c, rfl, .inl rfl⟩
/-- The library's own rows. -/
theorem RowO.of_owns {w : World} {base : Nat} {e : TypeId} {v : Value} {n : Nat} {xs : List Value} (h : w.ownsRow base e 1 v n xs) (hn : n ≤ 9223372036854775807) : RowO w (fun g => v.ownBlock = some g) v xs := by
  obtain ⟨hx, hc⟩ := h
  rw [Nat.mul_one] at hx
  refine ⟨by omega, ?_⟩
  rcases hc with ⟨rfl, h0⟩ | ⟨g, cap, cur, rfl, _, hh, _, _, _, ht⟩
  · rw [hx, h0]
    exact ⟨none, 0, rfl, .inl (List.length_eq_zero_iff.1 (by omega))⟩
  · rw [hx]
    refine ⟨_, cap, rfl, .inr ⟨g, cur, e, rfl, rfl, hh, fun j x hj => ?_⟩⟩
    rw [Nat.mul_one] at ht
    have hjn : j < n := by have := (List.getElem?_eq_some_iff.1 hj).1; omega
    rw [← ht, List.getElem?_take_of_lt hjn, Array.getElem?_toList] at hj
    exact hj
/-- A store into it. -/
theorem RowO.set {w : World} {S : Nat → Prop} {A : Option Addr} {n c : Nat} {xs : List Value} (h : RowO w S (.slice A n c) xs) {j : Nat} (hj : j < xs.length) :
    ∃ g, A = some ⟨g, 0, none⟩ ∧ S g ∧ g < w.heap.size ∧ (∀ w1 : World, w1.heap[g]? = w.heap[g]? → (∃ x, w1.cell? ⟨g, j, none⟩ = some x) ∧ w1.frozen? ⟨g, j, none⟩ = false ∧
      ∀ u, RowO (w1.setCell ⟨g, j, none⟩ u) S (.slice A n c) (xs.set j u)) := by
  obtain ⟨hl, A', c', e, hc⟩ := h
  cases e
  rcases hc with rfl | ⟨g, cur, T, rfl, hg, hh, hx⟩
  · simp at hj
  · have hlt : g < w.heap.size := (Array.getElem?_eq_some_iff.1 hh).1
    have hcj : cur[j]? = some xs[j] := hx j _ (List.getElem?_eq_getElem hj)
    refine ⟨g, rfl, hg, hlt, fun w1 h1 => ?_⟩
    have hh1 := h1.trans hh
    refine ⟨⟨_, (cell_of_row w1 g j cur T (0, 0) hh1).trans hcj⟩, frozen_of_row w1 g j cur T hh1, fun u => ?_⟩
    have h2 := heap_setCell_same w1 g j cur T u hh1
    refine ⟨by simpa using hl, _, c, by simp, .inr ⟨g, _, T, rfl, hg, h2, fun i x hi => ?_⟩⟩
    have hjc : j < cur.size := (Array.getElem?_eq_some_iff.1 hcj).1
    rw [Array.getElem?_setIfInBounds]
    rw [List.getElem?_set] at hi
    by_cases e : j = i
    · subst e
      rw [if_pos rfl] at hi
      rw [if_pos hj] at hi
      rw [if_pos rfl, if_pos hjc]
      exact hi
    · rw [if_neg e] at hi
      rw [if_neg e]
      exact hx i x hi
/-- A store of what is to come in its place. -/
theorem set_step {α : Type} (f : Nat → α) (xs : List α) (j : Nat) (hj : j < xs.length) : ((List.range j).map f ++ xs.drop j).set j (f j) = (List.range (j + 1)).map f ++ xs.drop (j + 1) := by
  have hl : ((List.range j).map f).length = j := by simp
  rw [List.set_append_right _ _ (by omega), hl, Nat.sub_self, List.drop_eq_getElem_cons hj, List.set_cons_zero, List.range_succ, List.map_append, List.append_assoc]
  rfl
end Go.Proofs.YtjjjdieljljcoaaGreatDoor
namespace Go.Proofs.YtjjjdieljljcoaaGreatDoor
open Go.RowKit
/-- Bools as a row's cells. -/
def bools (l : List Bool) : List Value := l.map fun x => .bool x
theorem bools_length (l : List Bool) : (bools l).length = l.length := by simp [bools]
theorem bools_at {l : List Bool} {j : Nat} (h : j < l.length) : (bools l)[j]'(by rw [bools_length]; exact h) = .bool (l[j]) := by simp [bools]
theorem boolInfo : (Tryz.prog.info? 4).map (fun i => (i.zero, i.size, i.bytes)) = some (some (.bool false), 1, 1) := by kernel_rfl

/-- A copy of its own. -/
def Copy (xs : List Value) (w : World) (e : Ending) (w' : World) : Prop := ∃ v, e = .returned v ∧ RowO w' (OwnB w w') v xs ∧ Below w.heap.size w w'
/-- The marks from k on. -/
def boolMark (k n : Nat) : List Bool := (List.range n).map fun (j : Nat) => (((k : Int) + (j : Int)) % 3 == 0)
theorem boolMark_length (k n : Nat) : (boolMark k n).length = n := by simp [boolMark]
theorem boolMark_at {k n j : Nat} (h : j < n) : (boolMark k n)[j]'(by rw [boolMark_length]; exact h) = (((k : Int) + (j : Int)) % 3 == 0) := by simp [boolMark]

end Go.Proofs.YtjjjdieljljcoaaGreatDoor
namespace Go.Proofs.YtjjjdieljljcoaaGreatDoor
open Go.RowKit
/-- Ints as a row's cells. -/
def ints (l : List Int) : List Value := l.map fun x => .int .i64 x
theorem ints_length (l : List Int) : (ints l).length = l.length := by simp [ints]
theorem ints_at {l : List Int} {j : Nat} (h : j < l.length) : (ints l)[j]'(by rw [ints_length]; exact h) = .int .i64 (l[j]) := by simp [ints]
theorem intInfo : (Tryz.prog.info? 3).map (fun i => (i.zero, i.size, i.bytes)) = some (some (.int .i64 0), 1, 8) := by kernel_rfl

/-- The marks from k on. -/
def intMark (k n : Nat) : List Int := (List.range n).map fun (j : Nat) => ((k + j : Nat) : Int)
theorem intMark_length (k n : Nat) : (intMark k n).length = n := by simp [intMark]
theorem intMark_at {k n j : Nat} (h : j < n) : (intMark k n)[j]'(by rw [intMark_length]; exact h) = ((k + j : Nat) : Int) := by simp [intMark]

end Go.Proofs.YtjjjdieljljcoaaGreatDoor
namespace Go.Proofs.YtjjjdieljljcoaaGreatDoor
open Go.RowKit
/-- A row of rows. -/
def RowVV (w : World) (S : Nat → Prop) (v : Value) (rss : List (List Value)) : Prop :=
  ∃ us : List Value, us.length = rss.length ∧ RowV w S v us ∧ ∀ (j : Nat) (u : Value) (r : List Value), us[j]? = some u → rss[j]? = some r → RowV w S u r
theorem RowVV.mono {w w' : World} {S S' : Nat → Prop} {v : Value} {rss : List (List Value)} (h : RowVV w S v rss) (hs : ∀ g, S g → w'.heap[g]? = w.heap[g]?) (hS : ∀ g, S g → S' g) : RowVV w' S' v rss := by
  obtain ⟨us, hl, hv, hr⟩ := h
  exact ⟨us, hl, hv.mono hs hS, fun j u r hu hx => (hr j u r hu hx).mono hs hS⟩
theorem RowVV.kept {w w' : World} {S : Nat → Prop} {v : Value} {rss : List (List Value)} (h : RowVV w S v rss) (hb : Below w.heap.size w w') : RowVV w' S v rss := by
  obtain ⟨us, hl, hv, hr⟩ := h
  exact ⟨us, hl, hv.kept hb, fun j u r hu hx => (hr j u r hu hx).kept hb⟩
theorem RowVV.shape {w : World} {S : Nat → Prop} {v : Value} {rss : List (List Value)} (h : RowVV w S v rss) : rss.length ≤ 9223372036854775807 ∧ ∃ A c, v = .slice A rss.length c := by
  obtain ⟨us, hl, hv, _⟩ := h
  obtain ⟨A, c, e⟩ := hv.shape
  rw [hl] at e
  exact ⟨by rw [← hl]; exact hv.1, A, c, e⟩
theorem RowVV.at {w : World} {S : Nat → Prop} {A : Option Addr} {n c : Nat} {rss : List (List Value)} (h : RowVV w S (.slice A n c) rss) {j : Nat} (hj : j < rss.length) :
    ∃ ad u, A = some ad ∧ S ad.block ∧ w.cell? (ad.add j) = some u ∧ RowV w S u rss[j] := by
  obtain ⟨us, hl, hv, hr⟩ := h
  obtain ⟨ad, e, hS, hc⟩ := hv.at (j := j) (by omega)
  exact ⟨ad, _, e, hS, hc, hr j _ _ (List.getElem?_eq_getElem (by omega)) (List.getElem?_eq_getElem hj)⟩

/-- Rows of the call's own, one beside the other. -/
structure RowsP (S : Nat → Prop) (w : World) (us : List Value) (rss : List (List Value)) (K : Nat → Nat → Prop) : Prop where
  len : us.length = rss.length
  row : ∀ (j : Nat) (u : Value) (r : List Value), us[j]? = some u → rss[j]? = some r → RowO w (K j) u r
  sub : ∀ j g, K j g → S g
  lt : ∀ j g, K j g → g < w.heap.size
  sep : ∀ i j g, K i g → K j g → i = j
theorem RowsP.nil (S : Nat → Prop) (w : World) : RowsP S w [] [] (fun _ _ => False) := ⟨rfl, fun j u r h => by simp at h, fun _ _ h => h.elim, fun _ _ h => h.elim, fun _ _ _ h => h.elim⟩
theorem RowsP.keep {S S' : Nat → Prop} {w w' : World} {us : List Value} {rss : List (List Value)} {K : Nat → Nat → Prop} (h : RowsP S w us rss K) (hs : ∀ j g, K j g → w'.heap[g]? = w.heap[g]?) (hS : ∀ j g, K j g → S' g) (hz : w.heap.size ≤ w'.heap.size) : RowsP S' w' us rss K :=
  ⟨h.len, fun j u r hu hr => (h.row j u r hu hr).mono (fun g hg => hs j g hg) (fun _ hg => hg), hS, fun j g hg => Nat.lt_of_lt_of_le (h.lt j g hg) hz, h.sep⟩
/-- One row more. -/
theorem RowsP.push {S : Nat → Prop} {w w1 : World} {us : List Value} {rss : List (List Value)} {K : Nat → Nat → Prop} {u : Value} {r : List Value} (h : RowsP S w us rss K) (hb : Below w.heap.size w w1) (hs : RowO w1 (OwnB w w1) u r) (hS : ∀ g, OwnB w w1 g → S g) :
    RowsP S w1 (us ++ [u]) (rss ++ [r]) (fun j g => if j < us.length then K j g else j = us.length ∧ OwnB w w1 g) := by
  refine ⟨by simp [h.len], fun j u' r' hu hr => ?_, fun j g hg => ?_, fun j g hg => ?_, fun i j g hi hj => ?_⟩
  · by_cases hj : j < us.length
    · rw [List.getElem?_append_left hj] at hu
      rw [List.getElem?_append_left (by rw [← h.len]; exact hj)] at hr
      exact (h.row j u' r' hu hr).mono (fun g hg => hb.block g (h.lt j g hg)) (fun g hg => by simpa [hj] using hg)
    · have e : j = us.length := by
        have := (List.getElem?_eq_some_iff.1 hu).1
        simp at this
        omega
      subst e
      rw [List.getElem?_append_right (Nat.le_refl _), Nat.sub_self] at hu
      rw [List.getElem?_append_right (by rw [h.len]; exact Nat.le_refl _), h.len, Nat.sub_self] at hr
      cases hu
      cases hr
      exact hs.mono (fun _ _ => rfl) (fun g hg => by simpa using hg)
  · by_cases hj : j < us.length
    · exact h.sub j g (by simpa [hj] using hg)
    · simp only [hj, if_false] at hg
      exact hS g hg.2
  · by_cases hj : j < us.length
    · exact Nat.lt_of_lt_of_le (h.lt j g (by simpa [hj] using hg)) hb.size
    · simp only [hj, if_false] at hg
      exact hg.2.2
  · by_cases h1 : i < us.length <;> by_cases h2 : j < us.length <;> simp only [h1, h2, if_true, if_false] at hi hj
    · exact h.sep i j g hi hj
    · have := h.lt i g hi
      have := hj.2.1
      omega
    · have := h.lt j g hj
      have := hi.2.1
      omega
    · omega

/-- A row of rows of the call's own: no block is met twice. -/
def RowOO (w : World) (S : Nat → Prop) (v : Value) (rss : List (List Value)) : Prop :=
  ∃ us K0 K, RowO w K0 v us ∧ RowsP S w us rss K ∧ ∀ g, K0 g → S g ∧ ∀ j, ¬ K j g
theorem RowOO.rows {w : World} {S : Nat → Prop} {v : Value} {rss : List (List Value)} (h : RowOO w S v rss) : RowVV w S v rss := by
  obtain ⟨us, K0, K, ho, hp, hk⟩ := h
  exact ⟨us, hp.len, ho.row.mono (fun _ _ => rfl) (fun g hg => (hk g hg).1), fun j u r hu hr => (hp.row j u r hu hr).row.mono (fun _ _ => rfl) (fun g hg => hp.sub j g hg)⟩
theorem RowOO.mono {w w' : World} {S S' : Nat → Prop} {v : Value} {rss : List (List Value)} (h : RowOO w S v rss) (hs : ∀ g, S g → w'.heap[g]? = w.heap[g]?) (hS : ∀ g, S g → S' g) (hz : w.heap.size ≤ w'.heap.size) : RowOO w' S' v rss := by
  obtain ⟨us, K0, K, ho, hp, hk⟩ := h
  exact ⟨us, K0, K, ho.mono (fun g hg => hs g (hk g hg).1) (fun _ hg => hg), hp.keep (fun j g hg => hs g (hp.sub j g hg)) (fun j g hg => hS g (hp.sub j g hg)) hz, fun g hg => ⟨hS g (hk g hg).1, (hk g hg).2⟩⟩
theorem RowOO.nil (w : World) (S : Nat → Prop) (A : Option Addr) (c : Nat) : RowOO w S (.slice A 0 c) [] := ⟨[], fun _ => False, fun _ _ => False, RowO.nil _ _ _ _, RowsP.nil _ _, fun _ h => h.elim⟩
theorem RowOO.shape {w : World} {S : Nat → Prop} {v : Value} {rss : List (List Value)} (h : RowOO w S v rss) : ∃ A c, v = .slice A rss.length c := h.rows.shape.2
end Go.Proofs.YtjjjdieljljcoaaGreatDoor
namespace Go.Proofs.YtjjjdieljljcoaaGreatDoor
open Go.RowKit
/-- Rows of ints as cells. -/
def intss (rs : List (List Int)) : List (List Value) := rs.map ints
theorem intss_length (rs : List (List Int)) : (intss rs).length = rs.length := by simp [intss]
theorem intss_at {rs : List (List Int)} {j : Nat} (h : j < rs.length) : (intss rs)[j]'(by rw [intss_length]; exact h) = ints (rs[j]) := by simp [intss]
theorem RowVV.atD {w : World} {S : Nat → Prop} {A : Option Addr} {n c : Nat} {rs : List (List Int)} (h : RowVV w S (.slice A n c) (intss rs)) {j : Nat} (hj : j < rs.length) :
    ∃ ad u, A = some ad ∧ S ad.block ∧ w.cell? (ad.add j) = some u ∧ RowV w S u (ints (rs.getD j [])) := by
  obtain ⟨ad, u, h1, h2, h3, h4⟩ := h.at (j := j) (by rw [intss_length]; exact hj)
  rw [intss_at hj] at h4
  refine ⟨ad, u, h1, h2, h3, ?_⟩
  rw [List.getD_eq_getElem?_getD, List.getElem?_eq_getElem hj]
  exact h4
theorem RowV.intD {w : World} {S : Nat → Prop} {A : Option Addr} {n c : Nat} {r : List Int} (h : RowV w S (.slice A n c) (ints r)) {j : Nat} (hj : j < r.length) : ∃ ad, A = some ad ∧ S ad.block ∧ w.cell? (ad.add j) = some (.int .i64 (r.getD j 0)) := by
  obtain ⟨ad, h1, h2, h3⟩ := h.at (j := j) (by rw [ints_length]; exact hj)
  rw [ints_at hj] at h3
  refine ⟨ad, h1, h2, ?_⟩
  rw [List.getD_eq_getElem?_getD, List.getElem?_eq_getElem hj]
  exact h3
theorem RowV.boolD {w : World} {S : Nat → Prop} {A : Option Addr} {n c : Nat} {r : List Bool} (h : RowV w S (.slice A n c) (bools r)) {j : Nat} (hj : j < r.length) : ∃ ad, A = some ad ∧ S ad.block ∧ w.cell? (ad.add j) = some (.bool (r.getD j false)) := by
  obtain ⟨ad, h1, h2, h3⟩ := h.at (j := j) (by rw [bools_length]; exact hj)
  rw [bools_at hj] at h3
  refine ⟨ad, h1, h2, ?_⟩
  rw [List.getD_eq_getElem?_getD, List.getElem?_eq_getElem hj]
  exact h3
theorem RowV.ints_shape {w : World} {S : Nat → Prop} {v : Value} {r : List Int} (h : RowV w S v (ints r)) : r.length ≤ 9223372036854775807 ∧ ∃ A c, v = .slice A r.length c := by
  obtain ⟨A, c, e⟩ := h.shape
  have hl := h.1
  rw [ints_length] at e hl
  exact ⟨hl, A, c, e⟩
def totR (rs : List (List Int)) : Nat := (rs.map List.length).sum
theorem totR_step {rs : List (List Int)} {j : Nat} (h : j < rs.length) : totR (rs.take (j + 1)) = totR (rs.take j) + (rs[j]).length := by
  rw [List.take_succ_eq_append_getElem h]
  simp only [totR, List.map_append, List.map_cons, List.map_nil, List.sum_append, List.sum_cons, List.sum_nil]
  omega
theorem totR_take (rs : List (List Int)) (j : Nat) : totR (rs.take j) ≤ totR rs := by
  have h := List.take_append_drop j rs
  have : totR rs = totR (rs.take j) + totR (rs.drop j) := by
    conv => lhs; rw [← h]
    simp only [totR, List.map_append, List.sum_append]
  omega

/-- A copy of its own. -/
def Copy2 (rss : List (List Value)) (w : World) (e : Ending) (w' : World) : Prop := ∃ v, e = .returned v ∧ RowOO w' (OwnB w w') v rss ∧ Below w.heap.size w w'
theorem rowInfo : (Tryz.prog.info? 27).map (fun i => (i.zero, i.size, i.bytes)) = some (some (.slice none 0 0), 1, 24) := by kernel_rfl

/-- The copy so far: the first rows are laid. -/
def Laid2 (w wr : World) (n : Nat) (rss : List (List Value)) (j : Nat) : Prop :=
  ∃ us K, RowO wr (fun g => g = w.heap.size) (.slice (some ⟨w.heap.size, 0, none⟩) n n) (us ++ List.replicate (n - j) (.slice none 0 0)) ∧ us.length = j ∧ RowsP (fun g => w.heap.size < g) wr us (rss.take j) K

/-- The marks of rows. -/
def marksR : Nat → List (List Int) → List (List Int)
  | _, [] => []
  | k, r :: rs => intMark k r.length :: marksR (k + r.length) rs
theorem marksR_length : ∀ (k : Nat) (rs : List (List Int)), (marksR k rs).length = rs.length
  | _, [] => rfl
  | k, r :: rs => by simp [marksR, marksR_length]
theorem marksR_at : ∀ (k : Nat) (rs : List (List Int)) (j : Nat) (h : j < rs.length), (marksR k rs)[j]? = some (intMark (k + totR (rs.take j)) (rs[j]).length)
  | _, [], j, h => by simp at h
  | k, r :: rs, 0, h => by simp [marksR, totR]
  | k, r :: rs, j + 1, h => by
    have := marksR_at (k + r.length) rs j (by simpa using h)
    simp only [marksR, List.getElem?_cons_succ, List.getElem_cons_succ, List.take_succ_cons, this]
    simp [totR, Nat.add_assoc]
theorem marksR_tot : ∀ (k : Nat) (rs : List (List Int)), totR (marksR k rs) = totR rs
  | _, [] => rfl
  | k, r :: rs => by
    have := marksR_tot (k + r.length) rs
    simp only [totR, marksR, List.map_cons, List.sum_cons, intMark_length] at this ⊢
    omega

/-- Rows of which the first j are marked. -/
structure MarkRel (S : Nat → Prop) (w wr : World) (k0 : Nat) (us : List Value) (rs : List (List Int)) (K : Nat → Nat → Prop) (j : Nat) : Prop where
  done : ∀ (i : Nat) (u : Value), i < j → us[i]? = some u → ∀ h : i < rs.length, RowO wr (K i) u (ints (intMark (k0 + totR (rs.take i)) (rs[i]).length))
  left : ∀ (i : Nat) (u : Value), j ≤ i → us[i]? = some u → ∀ h : i < rs.length, RowO wr (K i) u (ints (rs[i]))

end Go.Proofs.YtjjjdieljljcoaaGreatDoor
namespace Go.Proofs.YtjjjdieljljcoaaGreatDoor
open Go.RowKit
/-- Block g is a box of two cells. -/
def Bx2 (w : World) (g : Nat) (x y : Value) : Prop := w.cell? ⟨g, 0, none⟩ = some x ∧ w.cell? ⟨g, 1, none⟩ = some y
theorem Bx2.below {w w' : World} {g B : Nat} {x y : Value} (h : Bx2 w g x y) (hb : Below B w w') (hg : g < B) : Bx2 w' g x y :=
  ⟨(hb.cell (p := ⟨g, 0, none⟩) hg).trans h.1, (hb.cell (p := ⟨g, 1, none⟩) hg).trans h.2⟩
theorem Bx2.kept {w w' : World} {g : Nat} {x y : Value} (h : Bx2 w g x y) (hb : Below w.heap.size w w') : Bx2 w' g x y := h.below hb (by
  by_cases hl : g < w.heap.size
  · exact hl
  · have e : w.heap[g]? = none := Array.getElem?_eq_none (by omega)
    have := h.1
    simp [World.cell?, e] at this)
theorem Bx2.lt {w : World} {g : Nat} {x y : Value} (h : Bx2 w g x y) : g < w.heap.size := by
  by_cases hl : g < w.heap.size
  · exact hl
  · have e : w.heap[g]? = none := Array.getElem?_eq_none (by omega)
    have := h.1
    simp [World.cell?, e] at this
theorem Bx2.chg {w w' : World} {S : Nat → Prop} {g : Nat} {x y : Value} (h : Bx2 w g x y) (hc : Chg S w w') (hn : ¬ S g) : Bx2 w' g x y :=
  ⟨(hc.cell (p := ⟨g, 0, none⟩) h.lt hn).trans h.1, (hc.cell (p := ⟨g, 1, none⟩) h.lt hn).trans h.2⟩
/-- A box that was laid before a call that turns nothing old. -/
theorem box2_kept {w w1 : World} {a b : Value} {t : TypeId} (hb : Below (w.heap.size + 1) (w.alloc (.cells #[a, b] t)) w1) :
    w1.heap[w.heap.size]? = some (.cells #[a, b] t (0, 0)) ∧ w1.cell? ⟨w.heap.size, 0, none⟩ = some a ∧ w1.cell? ⟨w.heap.size, 1, none⟩ = some b ∧ w1.frozen? ⟨w.heap.size, 0, none⟩ = false ∧ w1.frozen? ⟨w.heap.size, 1, none⟩ = false := by
  have h := (hb.block w.heap.size (Nat.lt_succ_self _)).trans (heap_alloc_new w _)
  exact ⟨h, (cell_of_row w1 _ 0 _ _ (0, 0) h).trans rfl, (cell_of_row w1 _ 1 _ _ (0, 0) h).trans rfl, frozen_of_row w1 _ 0 _ _ h, frozen_of_row w1 _ 1 _ _ h⟩
theorem box2_new (w0 w1 : World) (B : Nat) (x y : Value) (t : TypeId) (h : Below B w0 w1) (hB : B ≤ w0.heap.size) :
    Below B w0 (w1.alloc (.cells #[x, y] t)) ∧ Bx2 (w1.alloc (.cells #[x, y] t)) w1.heap.size x y ∧ Below w1.heap.size w1 (w1.alloc (.cells #[x, y] t)) ∧ (w1.alloc (.cells #[x, y] t)).heap.size = w1.heap.size + 1 := by
  have k := box2_kept (w := w1) (a := x) (b := y) (t := t) (Below.refl _ _)
  exact ⟨h.alloc (Nat.le_trans hB h.size) _, ⟨k.2.1, k.2.2.1⟩, (Below.refl _ _).alloc (Nat.le_refl _) _, by simp⟩
/-- The two cells are written. -/
theorem put2 {w1 : World} {g : Nat} {x0 x1 k l : Value} (b0 : w1.cell? ⟨g, 0, none⟩ = some x0) (b1 : w1.cell? ⟨g, 1, none⟩ = some x1) :
    let W4 := (w1.setCell ⟨g, 0, none⟩ k).setCell ⟨g, 1, none⟩ l
    (W4.cell? ⟨g, 0, none⟩ = some k ∧ W4.cell? ⟨g, 1, none⟩ = some l) ∧ W4.heap.size = w1.heap.size ∧ (∀ h, h ≠ g → W4.heap[h]? = w1.heap[h]?) ∧ ∀ B a, Below B a w1 → B ≤ g → Below B a W4 := by
  intro W4
  have ne : (⟨g, 0, none⟩ : Addr) ≠ ⟨g, 1, none⟩ := fun e => by injection e with _ e2; cases e2
  have d1 : (w1.setCell ⟨g, 0, none⟩ k).cell? ⟨g, 1, none⟩ = some x1 := (World.cell?_setCell_other _ _ _ _ ne).trans b1
  refine ⟨⟨(World.cell?_setCell_other _ _ _ _ ne.symm).trans (World.cell?_setCell_same _ _ _ b0), World.cell?_setCell_same _ _ _ d1⟩, by simp [W4, World.setCell], fun h hne => (Below.heap_setCell _ _ _ h hne).trans (Below.heap_setCell _ _ _ h hne), fun B a hb hg => (hb.setCell (p := ⟨g, 0, none⟩) hg k).setCell (p := ⟨g, 1, none⟩) hg l⟩
end Go.Proofs.YtjjjdieljljcoaaGreatDoor
namespace Go.Proofs.YtjjjdieljljcoaaGreatDoor
open Go.RowKit
/-- An automaton, as its fields tell it. -/
structure Dx where
  acc : List Bool
  nxt : List (List Int)
def zeroD : Dx := ⟨[], []⟩
def DfaV (w : World) (S : Nat → Prop) (va vn : Value) (d : Dx) : Prop := RowV w S va (bools d.acc) ∧ RowVV w S vn (intss d.nxt)
theorem DfaV.mono {w w' : World} {S S' : Nat → Prop} {va vn : Value} {d : Dx} (h : DfaV w S va vn d) (hs : ∀ g, S g → w'.heap[g]? = w.heap[g]?) (hS : ∀ g, S g → S' g) : DfaV w' S' va vn d := ⟨h.1.mono hs hS, h.2.mono hs hS⟩
theorem DfaV.kept {w w' : World} {S : Nat → Prop} {va vn : Value} {d : Dx} (h : DfaV w S va vn d) (hb : Below w.heap.size w w') : DfaV w' S va vn d := ⟨h.1.kept hb, h.2.kept hb⟩
theorem DfaV.shape {w : World} {S : Nat → Prop} {va vn : Value} {d : Dx} (h : DfaV w S va vn d) : (∃ A c, va = .slice A d.acc.length c) ∧ ∃ A c, vn = .slice A d.nxt.length c := by
  obtain ⟨A, c, e⟩ := h.1.shape
  obtain ⟨A', c', e'⟩ := h.2.shape.2
  rw [bools_length] at e
  rw [intss_length] at e'
  exact ⟨⟨A, c, e⟩, A', c', e'⟩
/-- .. of the call's own. -/
def DfaO (w : World) (S : Nat → Prop) (va vn : Value) (d : Dx) : Prop :=
  ∃ Sa Sn : Nat → Prop, RowO w Sa va (bools d.acc) ∧ RowOO w Sn vn (intss d.nxt) ∧ (∀ g, Sa g → S g ∧ ¬ Sn g) ∧ ∀ g, Sn g → S g
theorem DfaO.dfa {w : World} {S : Nat → Prop} {va vn : Value} {d : Dx} (h : DfaO w S va vn d) : DfaV w S va vn d := by
  obtain ⟨Sa, Sn, h1, h2, h3, h4⟩ := h
  exact ⟨h1.row.mono (fun _ _ => rfl) (fun g hg => (h3 g hg).1), h2.rows.mono (fun _ _ => rfl) h4⟩
theorem DfaO.mono {w w' : World} {S S' : Nat → Prop} {va vn : Value} {d : Dx} (h : DfaO w S va vn d) (hs : ∀ g, S g → w'.heap[g]? = w.heap[g]?) (hS : ∀ g, S g → S' g) (hz : w.heap.size ≤ w'.heap.size) : DfaO w' S' va vn d := by
  obtain ⟨Sa, Sn, h1, h2, h3, h4⟩ := h
  exact ⟨Sa, Sn, h1.mono (fun g hg => hs g (h3 g hg).1) (fun _ h => h), h2.mono (fun g hg => hs g (h4 g hg)) (fun _ h => h) hz, fun g hg => ⟨hS g (h3 g hg).1, (h3 g hg).2⟩, fun g hg => hS g (h4 g hg)⟩
theorem DfaO.zero (w : World) (S : Nat → Prop) : DfaO w S (.slice none 0 0) (.slice none 0 0) zeroD :=
  ⟨fun _ => False, fun _ => False, RowO.nil _ _ _ _, RowOO.nil _ _ _ _, fun _ h => h.elim, fun _ h => h.elim⟩
def wtD (d : Dx) : Nat := d.acc.length + (d.nxt.length + totR d.nxt)

/-- A copy of its own. -/
def CopyD (d : Dx) (w : World) (e : Ending) (w' : World) : Prop := ∃ va vn, e = .returned (.agg #[va, vn]) ∧ DfaO w' (OwnB w w') va vn d ∧ Below w.heap.size w w'
theorem CopyD.shape {d : Dx} {w w' : World} {e : Ending} (h : CopyD d w e w') : ∃ A c A' c', e = .returned (.agg #[.slice A d.acc.length c, .slice A' d.nxt.length c']) ∧ DfaO w' (OwnB w w') (.slice A d.acc.length c) (.slice A' d.nxt.length c') d ∧ Below w.heap.size w w' := by
  obtain ⟨va, vn, rfl, ho, hb⟩ := h
  obtain ⟨⟨A, c, rfl⟩, A', c', rfl⟩ := ho.dfa.shape
  exact ⟨A, c, A', c', rfl, ho, hb⟩
theorem three2 (w : World) (o1 : Obj) (x y : Value) (t : TypeId) : ((w.alloc o1).alloc (.cells #[x, y] t)).heap[w.heap.size + 1]? = some (.cells #[x, y] t (0, 0)) := by
  have h := heap_alloc_new (w.alloc o1) (.cells #[x, y] t)
  rw [World.size_alloc] at h
  exact h
/-- The result's cells are written: what is beneath lies as it lay. -/
theorem toD_end {w W3 w1 w2 : World} {d : Dx} {va vn x0 x1 : Value} (hz : W3.heap.size = w.heap.size + 1 + 1 + 1) (hb : Below w.heap.size w W3) (hb1 : Below W3.heap.size W3 w1) (ha : RowO w1 (OwnB W3 w1) va (bools d.acc))
    (hb2 : Below w1.heap.size (w1.setCell ⟨w.heap.size + 1 + 1, 0, none⟩ va) w2) (hn : RowOO w2 (OwnB w1 w2) vn (intss d.nxt))
    (b0 : w2.cell? ⟨w.heap.size + 1, 0, none⟩ = some x0) (b1 : w2.cell? ⟨w.heap.size + 1, 1, none⟩ = some x1) :
    let W4 := ((w2.setCell ⟨w.heap.size + 1 + 1, 1, none⟩ vn).setCell ⟨w.heap.size + 1, 0, none⟩ va).setCell ⟨w.heap.size + 1, 1, none⟩ vn
    (W4.cell? ⟨w.heap.size + 1, 0, none⟩ = some va ∧ W4.cell? ⟨w.heap.size + 1, 1, none⟩ = some vn) ∧ CopyD d w (.returned (.agg #[va, vn])) W4 := by
  intro W4
  have hne : (w.heap.size + 1 : Nat) ≠ w.heap.size + 1 + 1 := by omega
  have d0 := (World.cell?_of_block (a := ⟨w.heap.size + 1, 0, none⟩) (Below.heap_setCell w2 ⟨w.heap.size + 1 + 1, 1, none⟩ vn _ hne)).trans b0
  have d1 := (World.cell?_of_block (a := ⟨w.heap.size + 1, 1, none⟩) (Below.heap_setCell w2 ⟨w.heap.size + 1 + 1, 1, none⟩ vn _ hne)).trans b1
  obtain ⟨hcl, hsz, hot, -⟩ := put2 (k := va) (l := vn) d0 d1
  have hs2 : (w2.setCell ⟨w.heap.size + 1 + 1, 1, none⟩ vn).heap.size = w2.heap.size := by simp [World.setCell]
  have hs1 : (w1.setCell ⟨w.heap.size + 1 + 1, 0, none⟩ va).heap.size = w1.heap.size := by simp [World.setCell]
  have hs4 : W4.heap.size = w2.heap.size := hsz.trans hs2
  have hz1 := hb1.size
  have hz2 := hb2.size
  rw [hs1] at hz2
  have hold : ∀ g, g ≠ w.heap.size + 1 → g ≠ w.heap.size + 1 + 1 → W4.heap[g]? = w2.heap[g]? := fun g h1 h2 => (hot g h1).trans (Below.heap_setCell w2 ⟨w.heap.size + 1 + 1, 1, none⟩ vn g h2)
  have hold1 : ∀ g, g < w1.heap.size → g ≠ w.heap.size + 1 + 1 → w2.heap[g]? = w1.heap[g]? := fun g h1 h2 => (hb2.block g h1).trans (Below.heap_setCell w1 ⟨w.heap.size + 1 + 1, 0, none⟩ va g h2)
  refine ⟨hcl, va, vn, rfl, ⟨OwnB W3 w1, OwnB w1 w2, ha.mono (fun g hg => ?_) (fun _ h => h), hn.mono (fun g hg => ?_) (fun _ h => h) (by rw [hs4]; exact Nat.le_refl _), fun g hg => ?_, fun g hg => ?_⟩, ?_⟩
  · have h1 := hg.1
    have h2 := hg.2
    exact (hold g (by omega) (by omega)).trans (hold1 g h2 (by omega))
  · have h1 := hg.1
    exact hold g (by omega) (by omega)
  · have h1 := hg.1
    have h2 := hg.2
    exact ⟨⟨by omega, by rw [hs4]; omega⟩, fun h => by have := h.1; omega⟩
  · have h1 := hg.1
    have h2 := hg.2
    exact ⟨by omega, by rw [hs4]; omega⟩
  · have q := (hb.trans (hb1.mono (by omega))).setCell (p := ⟨w.heap.size + 1 + 1, 0, none⟩) (by simp; omega) va
    have q2 := q.trans (hb2.mono (by omega))
    exact ((q2.setCell (p := ⟨w.heap.size + 1 + 1, 1, none⟩) (by simp; omega) vn).setCell (p := ⟨w.heap.size + 1, 0, none⟩) (by simp) va).setCell (p := ⟨w.heap.size + 1, 1, none⟩) (by simp) vn

/-- The marks of an automaton. -/
def markD (k : Nat) (d : Dx) : Dx := ⟨boolMark k d.acc.length, marksR (k + d.acc.length) d.nxt⟩
def lenD (d : Dx) : Nat := d.acc.length + totR d.nxt
theorem lenD_le (d : Dx) : lenD d ≤ wtD d := by unfold lenD wtD; omega

end Go.Proofs.YtjjjdieljljcoaaGreatDoor
namespace Go.Proofs.YtjjjdieljljcoaaGreatDoor
open Go.RowKit
theorem DfaO.kept {w w' : World} {S : Nat → Prop} {va vn : Value} {d : Dx} (h : DfaO w S va vn d) (hS : ∀ g, S g → g < w.heap.size) (hb : Below w.heap.size w w') : DfaO w' S va vn d :=
  h.mono (fun g hg => hb.block g (hS g hg)) (fun _ h => h) hb.size
theorem DfaO.chg {w w' : World} {S S' : Nat → Prop} {va vn : Value} {d : Dx} (h : DfaO w S va vn d) (hS : ∀ g, S g → g < w.heap.size) (hc : Chg S' w w') (hn : ∀ g, S g → ¬ S' g) : DfaO w' S va vn d :=
  h.mono (fun g hg => hc.block g (hS g hg) (hn g hg)) (fun _ h => h) hc.size
/-- A copy and a truth value. -/
def CopyDB (d : Dx) (b : Bool) (w : World) (e : Ending) (w' : World) : Prop := ∃ va vn, e = .returned (.tuple #[.agg #[va, vn], .bool b]) ∧ DfaO w' (OwnB w w') va vn d ∧ Below w.heap.size w w'
theorem CopyDB.shape {d : Dx} {b : Bool} {w w' : World} {e : Ending} (h : CopyDB d b w e w') : ∃ A c A' c', e = .returned (.tuple #[.agg #[.slice A d.acc.length c, .slice A' d.nxt.length c'], .bool b]) ∧ DfaO w' (OwnB w w') (.slice A d.acc.length c) (.slice A' d.nxt.length c') d ∧ Below w.heap.size w w' := by
  obtain ⟨va, vn, rfl, ho, hb⟩ := h
  obtain ⟨⟨A, c, rfl⟩, A', c', rfl⟩ := ho.dfa.shape
  exact ⟨A, c, A', c', rfl, ho, hb⟩

/-! A box that is laid while three calls go on, and filled at their end. -/
theorem box2_facts {V : World} {b : Nat} {x y : Value} {T : TypeId} (h : V.heap[b]? = some (.cells #[x, y] T (0, 0))) :
    V.cell? ⟨b, 0, none⟩ = some x ∧ V.cell? ⟨b, 1, none⟩ = some y ∧ V.frozen? ⟨b, 0, none⟩ = false ∧ V.frozen? ⟨b, 1, none⟩ = false :=
  ⟨(cell_of_row V _ 0 _ _ (0, 0) h).trans rfl, (cell_of_row V _ 1 _ _ (0, 0) h).trans rfl, frozen_of_row V _ 0 _ _ h, frozen_of_row V _ 1 _ _ h⟩
theorem blk_lt {V : World} {b : Nat} {o : Obj} (h : V.heap[b]? = some o) : b < V.heap.size := (Array.getElem?_eq_some_iff.1 h).1
def OwnX (w w' : World) (b g : Nat) : Prop := w.heap.size ≤ g ∧ g < w'.heap.size ∧ g ≠ b
def MidX (cur wc : World) (b : Nat) (x y : Value) (d : Dx) : Prop := Bx2 wc b x y ∧ DfaO wc (OwnX cur wc b) x y d ∧ cur.heap.size ≤ b ∧ b < wc.heap.size ∧ Below cur.heap.size cur wc
theorem midX_new {cur wx wb : World} {x y : Value} {d : Dx} {T : TypeId} (hcx : cur.heap.size ≤ wx.heap.size) (ho : DfaO wb (OwnB wx wb) x y d) (hb : Below cur.heap.size cur wb) : MidX cur (wb.alloc (.cells #[x, y] T)) wb.heap.size x y d := by
  have k := box2_kept (w := wb) (a := x) (b := y) (t := T) (Below.refl _ _)
  refine ⟨⟨k.2.1, k.2.2.1⟩, ho.mono (fun g hg => Below.heap_alloc _ _ g hg.2) (fun g hg => ⟨Nat.le_trans hcx hg.1, by have := hg.2; simp; omega, by have := hg.2; omega⟩) (by simp), hb.size, by simp, hb.alloc hb.size _⟩
theorem midX_set {cur wx wb : World} {b : Nat} {x y x0 y0 : Value} {d : Dx} {T : TypeId} (hcx : cur.heap.size ≤ wx.heap.size) (ho : DfaO wb (OwnB wx wb) x y d) (hb : Below cur.heap.size cur wb) (kb : wb.heap[b]? = some (.cells #[x0, y0] T (0, 0))) (hbx : b < wx.heap.size) (hcb : cur.heap.size ≤ b) :
    MidX cur ((wb.setCell ⟨b, 0, none⟩ x).setCell ⟨b, 1, none⟩ y) b x y d := by
  obtain ⟨c0, c1, -, -⟩ := box2_facts kb
  obtain ⟨hcl, hsz, hot, hB⟩ := put2 (k := x) (l := y) c0 c1
  have hlt := blk_lt kb
  refine ⟨hcl, ho.mono (fun g hg => hot g (by have := hg.1; omega)) (fun g hg => ⟨Nat.le_trans hcx hg.1, by rw [hsz]; exact hg.2, by have := hg.1; omega⟩) (by rw [hsz]; exact Nat.le_refl _), hcb, by rw [hsz]; exact hlt, hB _ _ hb hcb⟩
end Go.Proofs.YtjjjdieljljcoaaGreatDoor

/-
  What laws.szRegex and laws.szRegexS answer: what is left of a number behind the nodes and the letters of an expression, or -1.
  What laws.eqRegex and laws.eqRegexS answer of the same expression in two places: true.
-/
namespace Go.Proofs.YtjjjdieljljcoaaGreatDoor
open Go.RowKit
/-- Nodes and letters. -/
def wt : Fr → Nat
  | .nil => 0
  | .cons _ l a r => wt a + wt r + 1 + l.size
def wtL (L : List (Int × ByteArray × Fr)) : Nat := (L.map fun x => x.2.1.size + wt x.2.2).sum
theorem wt_items : ∀ f : Fr, wt f = f.items.length + wtL f.items
  | .nil => rfl
  | .cons _ l a r => by
    have := wt_items r
    simp only [wt, Fr.items, wtL, List.map_cons, List.sum_cons, List.length_cons] at this ⊢
    omega
theorem wtL_step {f : Fr} {j : Nat} {k : Int} {l : ByteArray} {a : Fr} (h : f.items[j]? = some (k, l, a)) : wtL (f.items.take (j + 1)) = wtL (f.items.take j) + (l.size + wt a) := by
  have hlt := (List.getElem?_eq_some_iff.1 h).1
  rw [List.take_succ_eq_append_getElem hlt, (List.getElem?_eq_some_iff.1 h).2]
  simp [wtL]
theorem wtL_take : ∀ (L : List (Int × ByteArray × Fr)) (j : Nat), wtL (L.take j) ≤ wtL L
  | _, 0 => by simp [wtL]
  | [], _ + 1 => Nat.le_refl _
  | x :: r, j + 1 => by
    have := wtL_take r j
    simp only [wtL, List.take_succ_cons, List.map_cons, List.sum_cons] at this ⊢
    omega
theorem size_wt : ∀ f : Fr, f.size ≤ wt f
  | .nil => Nat.le_refl _
  | .cons _ l a r => by
    have := size_wt a
    have := size_wt r
    simp only [Fr.size, wt]
    omega


set_option maxHeartbeats 800000 in
theorem szNode_of {n : Nat} (ih : ∀ (B : Nat) (u : Value) (f : Fr) (z : Int) (w : World), Sl w B n u f → B ≤ w.heap.size → 0 ≤ z → z ≤ 1048576 → Calls Tryz.prog 107 #[u, .int .i64 z] w (SzPost (wt f) z w))
    (B : Nat) (k : Int) (l : ByteArray) (u : Value) (a : Fr) (z : Int) (w : World) (hS : Sl w B n u a) (hB : B ≤ w.heap.size) (hl : l.size ≤ 9223372036854775807) (hz0 : 0 ≤ z) (hz1 : z ≤ 1048576) :
    Calls Tryz.prog 57 #[.agg #[.int .i64 k, .string l, u], .int .i64 z] w (SzPost (l.size + wt a) z w) := by
  have HB0 := Lib.hid ((Below.refl w.heap.size w).alloc (Nat.le_refl _) (.cells #[.int .i64 k, .string l, u] 45))
  by_cases h1 : (l.size : Int) ≤ z
  · have HI := Lib.hid (fun wr (hb : Below w.heap.size w wr) (hz : B ≤ wr.heap.size) => ih B u a (z - l.size) wr (hS.mono (hb.mono hB) (Nat.le_refl _)) hz (by omega) (by omega))
    clear hS
    by_cases h2 : (wt a : Int) ≤ z - l.size
    · have HR : Hid (leftOf (l.size + wt a) z = z - l.size - wt a) := Lib.hid (by rw [leftOf_yes (by omega)]; omega)
      go_enter Tryz.func57, Tryz.ntmps57
      go_wp2_with fail
      refine (HI.out _ HB0.out (by simp; omega)).mono ?_
      rintro e w1 ⟨he, hb1⟩
      rw [leftOf_yes h2] at he
      subst he
      have HW1 := Lib.hid (HB0.out.trans (hb1.mono (by simp)))
      clear hb1
      go_wp2_with fail
      go_ret
      exact ⟨congrArg (fun z : Int => Ending.returned (.int .i64 z)) HR.out.symm, HW1.out⟩
    · have HR : Hid (leftOf (l.size + wt a) z = -1) := Lib.hid (by rw [leftOf_no (by omega)])
      go_enter Tryz.func57, Tryz.ntmps57
      go_wp2_with fail
      refine (HI.out _ HB0.out (by simp; omega)).mono ?_
      rintro e w1 ⟨he, hb1⟩
      rw [leftOf_no (by omega)] at he
      subst he
      have HW1 := Lib.hid (HB0.out.trans (hb1.mono (by simp)))
      clear hb1
      go_wp2_with fail
      go_ret
      exact ⟨congrArg (fun z : Int => Ending.returned (.int .i64 z)) HR.out.symm, HW1.out⟩
  · have HR : Hid (leftOf (l.size + wt a) z = -1) := Lib.hid (by rw [leftOf_no (by omega)])
    clear hS
    go_enter Tryz.func57, Tryz.ntmps57
    go_wp2_with fail
    go_ret
    exact ⟨congrArg (fun z : Int => Ending.returned (.int .i64 z)) HR.out.symm, HB0.out⟩

set_option maxHeartbeats 1600000 in
theorem szS_any (n : Nat) : ∀ (B : Nat) (v : Value) (f : Fr) (z : Int) (w : World), Sl w B n v f → B ≤ w.heap.size → 0 ≤ z → z ≤ 1048576 → Calls Tryz.prog 107 #[v, .int .i64 z] w (SzPost (wt f) z w) := by
  induction n with
  | zero => intro B v f z w h; exact h.zero.elim
  | succ n ih =>
    intro B v f z w hS hB hz0 hz1
    obtain ⟨hl, A, c, rfl, hE⟩ := hS.open
    have HE := Lib.hid hE
    clear hE hS
    have HWT := Lib.hid (wt_items f)
    by_cases hlen : (f.items.length : Int) ≤ z
    · have hneg : ¬ z - (f.items.length : Int) < 0 := by omega
      go_enter Tryz.func107, Tryz.ntmps107
      go_wp2_with fail
      go_loopw [1, 5] (fun y i wr => ∃ j : Nat, i = .int .i64 j ∧ y = .int .i64 (z - f.items.length - wtL (f.items.take j)) ∧ (f.items.length : Int) + wtL (f.items.take j) ≤ z ∧ j ≤ f.items.length ∧ Below w.heap.size w wr) (fun _ i _ => f.items.length - (intOf i).toNat)
      case atStart => exact ⟨0, rfl, by simp [wtL], by simp [wtL]; omega, Nat.zero_le _, Below.refl _ _⟩
      case round =>
        obtain ⟨j, rfl, rfl, hle, hj, hb⟩ := hrel
        have hwz := hb.size
        have HB := Lib.hid hb
        clear hb
        by_cases hlt : j < f.items.length
        · obtain ⟨g, o, rfl, hg, k, l, a, u, hx, hls, he, h4⟩ := HE.out j hlt
          obtain ⟨hc0, hc1, hc2⟩ := he.below HB.out (Nat.lt_of_lt_of_le hg hB)
          have HS := Lib.hid (wtL_step hx)
          have hsub := h4.mono (HB.out.mono hB) (Nat.le_refl _)
          obtain ⟨m, hm⟩ : ∃ m, m = l.size + wt a := ⟨_, rfl⟩
          obtain ⟨y, hy⟩ : ∃ y : Int, y = z - f.items.length - wtL (f.items.take j) := ⟨_, rfl⟩
          have hy0 : 0 ≤ y := by omega
          have hy1 : y ≤ 1048576 := by omega
          have HI := szNode_of ih B k l u a y wr hsub (by omega) hls hy0 hy1
          rw [← hm] at HI HS
          rw [← hy]
          have HY := Lib.hid hy
          have HI := Lib.hid HI
          have HM := Lib.hid hm
          have hwt1 := wtL_take f.items (j + 1)
          clear hm hy he h4 hsub
          by_cases hfit : (m : Int) ≤ y
          · go_wp2_with fail
            refine HI.out.mono ?_
            rintro e w1 ⟨he, hb1⟩
            rw [leftOf_yes hfit] at he
            subst he
            have HB1 := Lib.hid (HB.out.trans (hb1.mono hwz))
            have hpos : 0 ≤ y - (m : Int) := by omega
            clear hb1
            go_wp2_with fail
            go_roundw
            case rel => exact ⟨j + 1, by go_num, congrArg (Value.int .i64) (by rw [HS.out, HY.out]; omega), by have := HY.out; rw [HS.out]; omega, by omega, HB1.out⟩
            case measure => simp [intOf]; omega
          · have HR : Hid (leftOf (wt f) z = -1) := Lib.hid (by rw [leftOf_no (by have := HY.out; have := HS.out; rw [HWT.out]; omega)])
            go_wp2_with fail
            refine HI.out.mono ?_
            rintro e w1 ⟨he, hb1⟩
            rw [leftOf_no (by omega)] at he
            subst he
            have HB1 := Lib.hid (HB.out.trans (hb1.mono hwz))
            clear hb1
            go_wp2_with fail
            go_ret
            exact ⟨congrArg (fun z : Int => Ending.returned (.int .i64 z)) HR.out.symm, HB1.out⟩
        · obtain rfl : j = f.items.length := by omega
          have HT : Hid (f.items.take f.items.length = f.items) := Lib.hid (List.take_length)
          have hle' := hle
          rw [HT.out] at hle'
          have HR : Hid (leftOf (wt f) z = z - f.items.length - wtL (f.items.take f.items.length)) := Lib.hid (by rw [leftOf_yes (by rw [HWT.out]; omega), HT.out, HWT.out]; omega)
          obtain ⟨y, hy⟩ : ∃ y : Int, y = z - f.items.length - wtL (f.items.take f.items.length) := ⟨_, rfl⟩
          rw [← hy] at HR ⊢
          clear hy hle hle' HT
          go_wp2_with fail
          go_ret
          exact ⟨congrArg (fun z : Int => Ending.returned (.int .i64 z)) HR.out.symm, HB.out⟩
    · have HR : Hid (leftOf (wt f) z = -1) := Lib.hid (by rw [leftOf_no (by rw [HWT.out]; omega)])
      have hneg : z - (f.items.length : Int) < 0 := by omega
      go_enter Tryz.func107, Tryz.ntmps107
      go_wp2_with fail
      go_ret
      exact ⟨congrArg (fun z : Int => Ending.returned (.int .i64 z)) HR.out.symm, Below.refl _ _⟩
end Go.Proofs.YtjjjdieljljcoaaGreatDoor
namespace Go.Proofs.YtjjjdieljljcoaaGreatDoor
open Go.RowKit
set_option maxRecDepth 100000 in
set_option maxHeartbeats 800000 in
theorem eqNode_of {n m : Nat} (ih : ∀ (B : Nat) (u u' : Value) (f : Fr) (w : World), Sl w B n u f → Sl w B m u' f → B ≤ w.heap.size → Calls Tryz.prog 109 #[u, u'] w fun e w' => e = .returned (.bool true) ∧ Below w.heap.size w w')
    (B : Nat) (k : Int) (l : ByteArray) (u u' : Value) (a : Fr) (w : World) (hS : Sl w B n u a) (hS' : Sl w B m u' a) (hB : B ≤ w.heap.size) :
    Calls Tryz.prog 61 #[.agg #[.int .i64 k, .string l, u], .agg #[.int .i64 k, .string l, u']] w fun e w' => e = .returned (.bool true) ∧ Below w.heap.size w w' := by
  have HB0 := Lib.hid (((Below.refl w.heap.size w).alloc (Nat.le_refl _) (.cells #[.int .i64 k, .string l, u] 26)).alloc (by simp) (.cells #[.int .i64 k, .string l, u'] 26))
  have HI := Lib.hid (fun wr (hb : Below w.heap.size w wr) => ih B u u' a wr (hS.mono (hb.mono hB) (Nat.le_refl _)) (hS'.mono (hb.mono hB) (Nat.le_refl _)) (Nat.le_trans hB hb.size))
  clear hS hS'
  go_enter Tryz.func61, Tryz.ntmps61
  go_wp2_with fail
  refine (HI.out _ HB0.out).mono ?_
  rintro e w1 ⟨rfl, hb1⟩
  have HW1 := Lib.hid (HB0.out.trans (hb1.mono HB0.out.size))
  clear hb1
  go_wp2_with fail
  go_ret
  exact ⟨rfl, HW1.out⟩

set_option maxRecDepth 100000 in
set_option maxHeartbeats 1600000 in
theorem eqS_any (n : Nat) : ∀ (m B : Nat) (v v' : Value) (f : Fr) (w : World), Sl w B n v f → Sl w B m v' f → B ≤ w.heap.size → Calls Tryz.prog 109 #[v, v'] w fun e w' => e = .returned (.bool true) ∧ Below w.heap.size w w' := by
  induction n with
  | zero => intro m B v v' f w h; exact h.zero.elim
  | succ n ih =>
    intro m B v v' f w hS hS' hB
    cases m with
    | zero => exact hS'.zero.elim
    | succ m =>
      obtain ⟨hl, A, c, rfl, hE⟩ := hS.open
      obtain ⟨_, A', c', rfl, hE'⟩ := hS'.open
      have HE := Lib.hid hE
      have HE' := Lib.hid hE'
      clear hE hE' hS hS'
      go_enter Tryz.func109, Tryz.ntmps109
      go_wp2_with fail
      go_loopw [5] (fun i wr => ∃ j : Nat, i = .int .i64 j ∧ j ≤ f.items.length ∧ Below w.heap.size w wr) (fun i _ => f.items.length - (intOf i).toNat)
      case atStart => exact ⟨0, rfl, Nat.zero_le _, Below.refl _ _⟩
      case round =>
        obtain ⟨j, rfl, hj, hb⟩ := hrel
        have HB := Lib.hid hb
        have hwz := hb.size
        clear hb
        by_cases hlt : j < f.items.length
        · obtain ⟨g, o, rfl, hg, k, l, a, u, hx, hls, he, h4⟩ := HE.out j hlt
          obtain ⟨g', o', rfl, hg', k2, l2, a2, u', hx', _, he', h4'⟩ := HE'.out j hlt
          rw [hx] at hx'
          cases hx'
          obtain ⟨hc0, hc1, hc2⟩ := he.below HB.out (Nat.lt_of_lt_of_le hg hB)
          obtain ⟨hd0, hd1, hd2⟩ := he'.below HB.out (Nat.lt_of_lt_of_le hg' hB)
          have HI := Lib.hid (eqNode_of (fun B u u' f w => ih m B u u' f w) B k l u u' a wr.drew (h4.mono ((HB.out.drew).mono hB) (Nat.le_refl _)) (h4'.mono ((HB.out.drew).mono hB) (Nat.le_refl _)) (by show B ≤ wr.heap.size; omega))
          have HBd := Lib.hid HB.out.drew
          clear he he' h4 h4' hx
          go_wp2_with fail
          go_still_tail 8, (by kernel_rfl)
          go_wp2_with fail
          refine HI.out.mono ?_
          rintro e w1 ⟨rfl, hb1⟩
          have HB1 := Lib.hid (HBd.out.trans (hb1.mono hwz))
          clear hb1
          go_wp2_with fail
          go_roundw
          case rel => exact ⟨j + 1, by go_num, by omega, HB1.out⟩
          case measure => simp [intOf]; omega
        · have hd : decide ((j : Int) < (f.items.length : Int)) = false := by simp; omega
          go_wp2_with fail
          go_ret
          exact ⟨rfl, HB.out⟩
end Go.Proofs.YtjjjdieljljcoaaGreatDoor

/-
  What laws.toRegex and laws.toRegexS answer: the same expression, in new memory.
-/
namespace Go.Proofs.YtjjjdieljljcoaaGreatDoor
open Go.RowKit
theorem rxInfo : (Tryz.prog.info? 26).map (fun i => (i.zero, i.size, i.bytes)) = some (some (.agg #[.int .i64 0, .string ⟨#[]⟩, .slice none 0 0]), 3, 48) := by kernel_rfl

/-- A slice that holds the row f, in blocks of the call's own. -/
def ToPostT (n : Nat) (f : Fr) (w : World) (e : Ending) (w' : World) : Prop :=
  ∃ v, e = .returned v ∧ SlT w' n (fun g => w.heap.size ≤ g ∧ g < w'.heap.size) v f ∧ Below w.heap.size w w'
/-- A node whose parts lie in blocks of the call's own. -/
def ToNodeT (n : Nat) (k : Int) (l : ByteArray) (a : Fr) (w : World) (e : Ending) (w' : World) : Prop :=
  ∃ u, e = .returned (.agg #[.int .i64 k, .string l, u]) ∧ SlT w' n (fun g => w.heap.size ≤ g ∧ g < w'.heap.size) u a ∧ Below w.heap.size w w'
def ToPost (n : Nat) (f : Fr) (w : World) (e : Ending) (w' : World) : Prop :=
  ∃ v, e = .returned v ∧ SlP w' (fun g => w.heap.size ≤ g ∧ g < w'.heap.size) n v f ∧ Below w.heap.size w w'
def ToNode (n : Nat) (k : Int) (l : ByteArray) (a : Fr) (w : World) (e : Ending) (w' : World) : Prop :=
  ∃ u, e = .returned (.agg #[.int .i64 k, .string l, u]) ∧ SlP w' (fun g => w.heap.size ≤ g ∧ g < w'.heap.size) n u a ∧ Below w.heap.size w w'

/-- A world with three blocks more. -/
def three (w : World) (o1 o2 o3 : Obj) : World := ((w.alloc o1).alloc o2).alloc o3
theorem three_size (w : World) (o1 o2 o3 : Obj) : (three w o1 o2 o3).heap.size = w.heap.size + 1 + 1 + 1 := by simp [three]
theorem three_two (w : World) (o1 o2 o3 : Obj) : (three w o1 o2 o3).heap[w.heap.size + 1]? = some o2 := by
  have h := heap_alloc_new (w.alloc o1) o2
  rw [World.size_alloc] at h
  exact (Below.heap_alloc _ o3 _ (by simp)).trans h
theorem three_three (w : World) (o1 o2 o3 : Obj) : (three w o1 o2 o3).heap[w.heap.size + 1 + 1]? = some o3 := by
  have h := heap_alloc_new ((w.alloc o1).alloc o2) o3
  rw [World.size_alloc, World.size_alloc] at h
  exact h

/-- The result's cells are written: what is beneath lies as it lay. -/
theorem node_end {w W3 w1 : World} {n : Nat} {k : Int} {l : ByteArray} {u : Value} {a : Fr} {x0 x1 x2 : Value} (hs : SlT w1 n (fun g => W3.heap.size ≤ g ∧ g < w1.heap.size) u a) (hb1 : Below W3.heap.size W3 w1) (hb : Below w.heap.size w W3) (hz : W3.heap.size = w.heap.size + 1 + 1 + 1)
    (b0 : w1.cell? ⟨w.heap.size + 1, 0, none⟩ = some x0) (b1 : w1.cell? ⟨w.heap.size + 1, 1, none⟩ = some x1) (b2 : w1.cell? ⟨w.heap.size + 1, 2, none⟩ = some x2) :
    let W4 := (((w1.setCell ⟨w.heap.size + 1 + 1, 2, none⟩ u).setCell ⟨w.heap.size + 1, 0, none⟩ (.int .i64 k)).setCell ⟨w.heap.size + 1, 1, none⟩ (.string l)).setCell ⟨w.heap.size + 1, 2, none⟩ u
    W4.cell? ⟨w.heap.size + 1, 0, none⟩ = some (.int .i64 k) ∧ W4.cell? ⟨w.heap.size + 1, 1, none⟩ = some (.string l) ∧ W4.cell? ⟨w.heap.size + 1, 2, none⟩ = some u ∧
      SlT W4 n (fun g => w.heap.size ≤ g ∧ g < W4.heap.size) u a ∧ Below w.heap.size w W4 := by
  intro W4
  have ne : ∀ {g o g' o' : Nat}, g ≠ g' ∨ o ≠ o' → (⟨g, o, none⟩ : Addr) ≠ ⟨g', o', none⟩ := fun h e => by
    injection e with e1 e2
    rcases h with h | h
    · exact h e1
    · exact h e2
  have d0 : (w1.setCell ⟨w.heap.size + 1 + 1, 2, none⟩ u).cell? ⟨w.heap.size + 1, 0, none⟩ = some x0 := (World.cell?_setCell_other _ _ _ _ (ne (.inl (by omega)))).trans b0
  have d1 : ((w1.setCell ⟨w.heap.size + 1 + 1, 2, none⟩ u).setCell ⟨w.heap.size + 1, 0, none⟩ (.int .i64 k)).cell? ⟨w.heap.size + 1, 1, none⟩ = some x1 :=
    (World.cell?_setCell_other _ _ _ _ (ne (.inr (by omega)))).trans ((World.cell?_setCell_other _ _ _ _ (ne (.inl (by omega)))).trans b1)
  have d2 : (((w1.setCell ⟨w.heap.size + 1 + 1, 2, none⟩ u).setCell ⟨w.heap.size + 1, 0, none⟩ (.int .i64 k)).setCell ⟨w.heap.size + 1, 1, none⟩ (.string l)).cell? ⟨w.heap.size + 1, 2, none⟩ = some x2 :=
    (World.cell?_setCell_other _ _ _ _ (ne (.inr (by omega)))).trans ((World.cell?_setCell_other _ _ _ _ (ne (.inr (by omega)))).trans ((World.cell?_setCell_other _ _ _ _ (ne (.inl (by omega)))).trans b2))
  have hsz : W4.heap.size = w1.heap.size := by simp [W4, World.setCell]
  refine ⟨?_, ?_, World.cell?_setCell_same _ _ _ d2, ?_, ?_⟩
  · exact (World.cell?_setCell_other _ _ _ _ (ne (.inr (by omega)))).trans ((World.cell?_setCell_other _ _ _ _ (ne (.inr (by omega)))).trans (World.cell?_setCell_same _ _ _ d0))
  · exact (World.cell?_setCell_other _ _ _ _ (ne (.inr (by omega)))).trans (World.cell?_setCell_same _ _ _ d1)
  · refine hs.mono (fun g hg => ?_) (fun g hg => ⟨by omega, by rw [hsz]; exact hg.2⟩)
    have h1 := hg.1
    rw [hz] at h1
    exact ((Below.heap_setCell _ _ _ g (by simp; omega)).trans ((Below.heap_setCell _ _ _ g (by simp; omega)).trans ((Below.heap_setCell _ _ _ g (by simp; omega)).trans (Below.heap_setCell _ _ _ g (by simp; omega)))))
  · have hb' := hb.trans (hb1.mono (by rw [hz]; omega))
    exact (((hb'.setCell (p := ⟨w.heap.size + 1 + 1, 2, none⟩) (by simp; omega) _).setCell (p := ⟨w.heap.size + 1, 0, none⟩) (by simp) _).setCell (p := ⟨w.heap.size + 1, 1, none⟩) (by simp) _).setCell (p := ⟨w.heap.size + 1, 2, none⟩) (by simp) _

set_option maxHeartbeats 800000 in
theorem toNodeT_of {n : Nat} (ih : ∀ (B : Nat) (u : Value) (f : Fr) (w : World), Sl w B n u f → B ≤ w.heap.size → f.size ≤ 2097152 → Calls Tryz.prog 108 #[u] w (ToPostT n f w))
    (B : Nat) (k : Int) (l : ByteArray) (u : Value) (a : Fr) (w : World) (hS : Sl w B n u a) (hB : B ≤ w.heap.size) (hsz : a.size ≤ 2097152) :
    Calls Tryz.prog 59 #[.agg #[.int .i64 k, .string l, u]] w (ToNodeT n k l a w) := by
  have HB3 := Lib.hid ((((Below.refl w.heap.size w).alloc (Nat.le_refl _) (.cells #[.int .i64 k, .string l, u] 45)).alloc (by simp) (.cells #[.int .i64 0, .string ⟨#[]⟩, .slice none 0 0] 26)).alloc (by simp; omega) (.cells #[.int .i64 k, .string l, .slice none 0 0] 26))
  have HI := Lib.hid (fun wr (hb : Below w.heap.size w wr) => ih B u a wr (hS.mono (hb.mono hB) (Nat.le_refl _)) (Nat.le_trans hB hb.size) hsz)
  clear hS
  go_enter Tryz.func59, Tryz.ntmps59
  go_wp2_with fail
  refine (HI.out _ HB3.out).mono ?_
  rintro e w1 ⟨v, rfl, hsl, hb1⟩
  obtain ⟨A, c, rfl⟩ := hsl.shape
  have hz := three_size w (.cells #[.int .i64 k, .string l, u] 45) (.cells #[.int .i64 0, .string ⟨#[]⟩, .slice none 0 0] 26) (.cells #[.int .i64 k, .string l, .slice none 0 0] 26)
  have h2 := three_two w (.cells #[.int .i64 k, .string l, u] 45) (.cells #[.int .i64 0, .string ⟨#[]⟩, .slice none 0 0] 26) (.cells #[.int .i64 k, .string l, .slice none 0 0] 26)
  have h3 := three_three w (.cells #[.int .i64 k, .string l, u] 45) (.cells #[.int .i64 0, .string ⟨#[]⟩, .slice none 0 0] 26) (.cells #[.int .i64 k, .string l, .slice none 0 0] 26)
  unfold three at hz h2 h3
  have hz1 := hb1.size
  rw [hz] at hz1
  have g2 := (hb1.block _ (by rw [hz]; omega)).trans h2
  have g3 := (hb1.block _ (by rw [hz]; omega)).trans h3
  have a0 := (cell_of_row w1 _ 0 _ _ (0, 0) g3).trans (rfl : _ = some (Value.int .i64 k))
  have a1 := (cell_of_row w1 _ 1 _ _ (0, 0) g3).trans (rfl : _ = some (Value.string l))
  have a2 := (cell_of_row w1 _ 2 _ _ (0, 0) g3).trans (rfl : _ = some (Value.slice none 0 0))
  have b0 := (cell_of_row w1 _ 0 _ _ (0, 0) g2).trans (rfl : _ = some (Value.int .i64 0))
  have b1 := (cell_of_row w1 _ 1 _ _ (0, 0) g2).trans (rfl : _ = some (Value.string ⟨#[]⟩))
  have b2 := (cell_of_row w1 _ 2 _ _ (0, 0) g2).trans (rfl : _ = some (Value.slice none 0 0))
  have fa := frozen_of_row w1 _ 2 _ _ g3
  have f0 := frozen_of_row w1 _ 0 _ _ g2
  have f1 := frozen_of_row w1 _ 1 _ _ g2
  have f2 := frozen_of_row w1 _ 2 _ _ g2
  clear g2 g3 h2 h3
  have HSL := Lib.hid hsl
  have HB1 := Lib.hid hb1
  have HZ := Lib.hid hz
  clear hsl hb1 hz
  go_wp2_with fail
  have R := node_end (w := w) (k := k) (l := l) HSL.out HB1.out HB3.out HZ.out b0 b1 b2
  obtain ⟨c0, c1, c2, hR⟩ := R
  refine bodyPost_ret (v := .agg #[.int .i64 k, .string l, .slice A a.items.length c]) (by simp [results, Tryz.results59, go_sem, c0, c1, c2]) rfl ⟨_, rfl, hR.1, hR.2⟩

/-- Block g holds a row of expressions; the first j are filled in, what is beneath them lies in later blocks, part by part. -/
def Filled (wr : World) (g n : Nat) (f : Fr) (j m : Nat) : Prop :=
  (∃ cur : Array Value, wr.heap[g]? = some (.cells cur 26 (0, 0)) ∧ cur.size = f.items.length * 3) ∧
    ∃ s : Nat → Nat, g < s 0 ∧ (∀ i, s i ≤ s (i + 1)) ∧ s j ≤ m ∧ m ≤ wr.heap.size ∧ ∀ i k l a, i < j → f.items[i]? = some (k, l, a) → ∃ u, ElAt wr g (i * 3) k l u ∧ SlT wr n (fun h => s i ≤ h ∧ h < s (i + 1)) u a
def cutAt (s : Nat → Nat) (j z i : Nat) : Nat := if i ≤ j then s i else z
theorem cutAt_le {s : Nat → Nat} {j z i : Nat} (h : i ≤ j) : cutAt s j z i = s i := if_pos h
theorem cutAt_gt {s : Nat → Nat} {j z i : Nat} (h : j < i) : cutAt s j z i = z := if_neg (by omega)
theorem rising {s : Nat → Nat} (h : ∀ i, s i ≤ s (i + 1)) {i j : Nat} (hij : i ≤ j) : s i ≤ s j := by
  induction j with
  | zero => rw [Nat.le_zero.1 hij]; exact Nat.le_refl _
  | succ j ih =>
    by_cases e : i = j + 1
    · rw [e]; exact Nat.le_refl _
    · exact Nat.le_trans (ih (by omega)) (h j)
theorem Filled.cells {wr : World} {g n : Nat} {f : Fr} {j m : Nat} (h : Filled wr g n f j m) (hj : j < f.items.length) :
    (∃ x, wr.cell? ⟨g, j * 3, none⟩ = some x) ∧ (∃ x, wr.cell? ⟨g, j * 3 + 1, none⟩ = some x) ∧ (∃ x, wr.cell? ⟨g, j * 3 + 2, none⟩ = some x) ∧ ∀ o, wr.frozen? ⟨g, o, none⟩ = false := by
  obtain ⟨⟨cur, hh, hs⟩, _⟩ := h
  have at_ : ∀ o, o < cur.size → ∃ x, wr.cell? ⟨g, o, none⟩ = some x := fun o ho => ⟨_, (cell_of_row wr g o _ _ (0, 0) hh).trans (Array.getElem?_eq_getElem ho)⟩
  exact ⟨at_ _ (by omega), at_ _ (by omega), at_ _ (by omega), fun o => frozen_of_row wr g o _ _ hh⟩
theorem Filled.lt {wr : World} {g n : Nat} {f : Fr} {j m : Nat} (h : Filled wr g n f j m) : g < wr.heap.size := by
  obtain ⟨⟨cur, hh, _⟩, _⟩ := h
  exact (Array.getElem?_eq_some_iff.1 hh).1
/-- Over a call that turns nothing old. -/
theorem Filled.below {wr w1 : World} {g n : Nat} {f : Fr} {j m : Nat} (h : Filled wr g n f j m) (hb : Below wr.heap.size wr w1) : Filled w1 g n f j m := by
  have hg := h.lt
  obtain ⟨⟨cur, hh, hs⟩, s, h0, hr, hj, hm, hE⟩ := h
  refine ⟨⟨cur, (hb.block g hg).trans hh, hs⟩, s, h0, hr, hj, Nat.le_trans hm hb.size, fun i k l a hi hx => ?_⟩
  obtain ⟨u, he, hsl⟩ := hE i k l a hi hx
  exact ⟨u, he.below hb hg, hsl.mono (fun g' hg' => hb.block g' (Nat.lt_of_lt_of_le hg'.2 (Nat.le_trans (rising hr hi) (Nat.le_trans hj hm)))) (fun _ hg' => hg')⟩
/-- The next one is stored. -/
theorem Filled.step {w1 : World} {g n m : Nat} {f : Fr} {j : Nat} {k : Int} {l : ByteArray} {u : Value} {a : Fr} (h : Filled w1 g n f j m) (hx : f.items[j]? = some (k, l, a)) (hs : SlT w1 n (fun h => m ≤ h ∧ h < w1.heap.size) u a) :
    let W2 := ((w1.setCell ⟨g, j * 3, none⟩ (.int .i64 k)).setCell ⟨g, j * 3 + 1, none⟩ (.string l)).setCell ⟨g, j * 3 + 2, none⟩ u
    Filled W2 g n f (j + 1) W2.heap.size := by
  intro W2
  have hlt := (List.getElem?_eq_some_iff.1 hx).1
  obtain ⟨⟨x0, b0⟩, ⟨x1, b1⟩, ⟨x2, b2⟩, _⟩ := h.cells hlt
  have hsz : W2.heap.size = w1.heap.size := by simp [W2, World.setCell]
  have ne : ∀ {o o' : Nat}, o ≠ o' → (⟨g, o, none⟩ : Addr) ≠ ⟨g, o', none⟩ := fun h e => by
    injection e with _ e2
    exact h e2
  have far : ∀ o, o < j * 3 ∨ j * 3 + 2 < o → W2.cell? ⟨g, o, none⟩ = w1.cell? ⟨g, o, none⟩ := fun o ho =>
    (World.cell?_setCell_other _ _ _ _ (ne (by omega))).trans ((World.cell?_setCell_other _ _ _ _ (ne (by omega))).trans (World.cell?_setCell_other _ _ _ _ (ne (by omega))))
  have hother : ∀ h, g ≠ h → W2.heap[h]? = w1.heap[h]? := fun h hne =>
    (Below.heap_setCell _ _ _ h (fun e => hne e.symm)).trans ((Below.heap_setCell _ _ _ h (fun e => hne e.symm)).trans (Below.heap_setCell _ _ _ h (fun e => hne e.symm)))
  have d1 : (w1.setCell ⟨g, j * 3, none⟩ (.int .i64 k)).cell? ⟨g, j * 3 + 1, none⟩ = some x1 := (World.cell?_setCell_other _ _ _ _ (ne (by omega))).trans b1
  have d2 : ((w1.setCell ⟨g, j * 3, none⟩ (.int .i64 k)).setCell ⟨g, j * 3 + 1, none⟩ (.string l)).cell? ⟨g, j * 3 + 2, none⟩ = some x2 :=
    (World.cell?_setCell_other _ _ _ _ (ne (by omega))).trans ((World.cell?_setCell_other _ _ _ _ (ne (by omega))).trans b2)
  obtain ⟨⟨cur, hh, hcs⟩, s, h0, hr, hsj, hm, hE⟩ := h
  have hgs : ∀ i, g < s i := fun i => Nat.lt_of_lt_of_le h0 (rising hr (Nat.zero_le i))
  refine ⟨⟨_, heap_setCell_same _ g (j * 3 + 2) _ _ u (heap_setCell_same _ g (j * 3 + 1) _ _ (.string l) (heap_setCell_same w1 g (j * 3) _ _ (.int .i64 k) hh)), by simpa using hcs⟩,
    cutAt s j w1.heap.size, by rw [cutAt_le (Nat.zero_le _)]; exact h0, fun i => ?_, by rw [cutAt_gt (Nat.lt_succ_self _), hsz]; exact Nat.le_refl _, Nat.le_refl _, fun i k' l' a' hi hx' => ?_⟩
  · have := hr i
    by_cases e1 : i + 1 ≤ j
    · rw [cutAt_le (by omega), cutAt_le e1]; exact this
    · rw [cutAt_gt (by omega : j < i + 1)]
      by_cases e2 : i ≤ j
      · rw [cutAt_le e2]
        have := rising hr e2
        omega
      · rw [cutAt_gt (by omega)]; exact Nat.le_refl _
  by_cases e : i = j
  · subst e
    rw [hx] at hx'
    cases hx'
    refine ⟨u, ⟨?_, ?_, World.cell?_setCell_same _ _ _ d2⟩, hs.mono (fun h hh => hother h (by have := hgs i; omega)) (fun h hh => ⟨by rw [cutAt_le (Nat.le_refl _)]; omega, by rw [cutAt_gt (Nat.lt_succ_self _)]; exact hh.2⟩)⟩
    · exact (World.cell?_setCell_other _ _ _ _ (ne (by omega))).trans ((World.cell?_setCell_other _ _ _ _ (ne (by omega))).trans (World.cell?_setCell_same _ _ _ b0))
    · exact (World.cell?_setCell_other _ _ _ _ (ne (by omega))).trans (World.cell?_setCell_same _ _ _ d1)
  · obtain ⟨u', he, hsl⟩ := hE i k' l' a' (by omega) hx'
    refine ⟨u', ⟨(far _ (by omega)).trans he.1, (far _ (by omega)).trans he.2.1, (far _ (by omega)).trans he.2.2⟩, hsl.mono (fun h hh => hother h (by have := hgs i; omega)) (fun h hh => ⟨by rw [cutAt_le (by omega)]; exact hh.1, by rw [cutAt_le (by omega)]; exact hh.2⟩)⟩

theorem to_end {w wr : World} {n : Nat} {f : Fr} (hl : f.items.length ≤ 9223372036854775807) (hls : ∀ (j : Nat) (k : Int) (l : ByteArray) (a : Fr), f.items[j]? = some (k, l, a) → l.size ≤ 9223372036854775807)
    (hF : Filled wr w.heap.size n f f.items.length wr.heap.size) (hb : Below w.heap.size w wr) : ToPostT (n + 1) f w (.returned (.slice (some ⟨w.heap.size, 0, none⟩) f.items.length f.items.length)) wr := by
  have hg := hF.lt
  obtain ⟨⟨cur, hh, hcs⟩, s, h0, hr, hsj, hm, hE⟩ := hF
  have hgs : ∀ i, w.heap.size < s i := fun i => Nat.lt_of_lt_of_le h0 (rising hr (Nat.zero_le i))
  refine ⟨_, rfl, ⟨hl, .inr ⟨w.heap.size, 0, _, fun j h => j < f.items.length ∧ s j ≤ h ∧ h < s (j + 1), rfl, ⟨Nat.le_refl _, hg⟩, ⟨cur, _, hh⟩, fun j h hj => ?_, fun i j h hi hj => ?_, fun j k l a hx => ⟨hls j k l a hx, ?_⟩⟩⟩, hb⟩
  · have h1 := hgs j
    have h2 := rising hr (show j + 1 ≤ f.items.length from hj.1)
    exact ⟨⟨by omega, by omega⟩, by omega⟩
  · by_cases e : i = j
    · exact e
    · by_cases e2 : i < j
      · have := rising hr (show i + 1 ≤ j from e2)
        omega
      · have := rising hr (show j + 1 ≤ i by omega)
        omega
  · obtain ⟨u, he, hsl⟩ := hE j k l a (List.getElem?_eq_some_iff.1 hx).1 hx
    refine ⟨u, by rw [Nat.zero_add]; exact he, hsl.mono (fun _ _ => rfl) (fun h hh => ⟨(List.getElem?_eq_some_iff.1 hx).1, hh.1, hh.2⟩)⟩

set_option maxHeartbeats 1600000 in
theorem toST_any (n : Nat) : ∀ (B : Nat) (v : Value) (f : Fr) (w : World), Sl w B n v f → B ≤ w.heap.size → f.size ≤ 2097152 → Calls Tryz.prog 108 #[v] w (ToPostT n f w) := by
  induction n with
  | zero => intro B v f w h; exact h.zero.elim
  | succ n ih =>
    intro B v f w hS hB hsz
    obtain ⟨i0, hi, hz0, hz1, hz2⟩ := info_parts rxInfo
    obtain ⟨hl, A, c, rfl, hE⟩ := hS.open
    have hlen := f.len_size
    have HE := Lib.hid hE
    have hls : ∀ (j : Nat) (k : Int) (l : ByteArray) (a : Fr), f.items[j]? = some (k, l, a) → l.size ≤ 9223372036854775807 := fun j k l a hx => by
      obtain ⟨g, o, _, _, k', l', a', u, hx', hls, _⟩ := hE j (List.getElem?_eq_some_iff.1 hx).1
      rw [hx] at hx'
      cases hx'
      exact hls
    have HLS := Lib.hid hls
    clear hE hS hls
    go_enter Tryz.func108, Tryz.ntmps108
    go_wp2_with (at_make; refine wpList_make_full _ rfl _ _ 24 rfl w.heap.size 26 i0 _ 3 Tryz.underlying24 hi hz0 hz1 _ _ _ _ f.items.length rfl rfl rfl rfl (by rw [hz2]; omega) (by unfold maxLen; omega) (Nat.le_refl _) ?_; intro w1 hown hgr)
    have hF0 : Filled w1 w.heap.size n f 0 w1.heap.size ∧ Below w.heap.size w w1 := by
      have hsz : w.heap.size < w1.heap.size := by
        rcases hown.2 with ⟨e, _⟩ | ⟨g, cap, cur, e, _, hh, _, _, hcs, _⟩
        · cases e
        · cases e
          exact (Array.getElem?_eq_some_iff.1 hh).1
      refine ⟨⟨?_, fun _ => w.heap.size + 1, Nat.lt_succ_self _, fun _ => Nat.le_refl _, hsz, Nat.le_refl _, fun i k l a hi => absurd hi (Nat.not_lt_zero _)⟩, ⟨hgr.os, hgr.tape, hgr.output, hgr.size, fun k hk => hgr.block k hk (fun e => by cases e)⟩⟩
      rcases hown.2 with ⟨e, _⟩ | ⟨g, cap, cur, e, _, hh, _, _, hcs, _⟩
      · cases e
      · cases e
        exact ⟨cur, hh, hcs⟩
    obtain ⟨hf0, hb0⟩ := hF0
    clear hown hgr
    go_loopw [4] (fun i wr => ∃ j : Nat, i = .int .i64 j ∧ j ≤ f.items.length ∧ Filled wr w.heap.size n f j wr.heap.size ∧ Below w.heap.size w wr) (fun i _ => f.items.length - (intOf i).toNat)
    case atStart => exact ⟨0, rfl, Nat.zero_le _, hf0, hb0⟩
    case round =>
      obtain ⟨j, rfl, hj, hfil, hb⟩ := hrel
      have HF := Lib.hid hfil
      have HB := Lib.hid hb
      have hwz := hb.size
      clear hfil hb
      by_cases hlt : j < f.items.length
      · obtain ⟨g, o, rfl, hg, k, l, a, u, hx, hls, he, h4⟩ := HE.out j hlt
        obtain ⟨hc0, hc1, hc2⟩ := he.below HB.out (Nat.lt_of_lt_of_le hg hB)
        have hsa := Fr.size_item hx
        have HI := Lib.hid (toNodeT_of ih B k l u a wr (h4.mono (HB.out.mono hB) (Nat.le_refl _)) (by omega) (by omega))
        have HX := Lib.hid hx
        clear he h4 hx
        go_wp2_with fail
        refine HI.out.mono ?_
        rintro e w2 ⟨u', rfl, hsl, hb2⟩
        obtain ⟨A', c', rfl⟩ := hsl.shape
        have HF2 := Lib.hid (HF.out.below hb2)
        obtain ⟨⟨x0, b0⟩, ⟨x1, b1⟩, ⟨x2, b2⟩, hfr⟩ := HF2.out.cells hlt
        have f0 := hfr (j * 3)
        have f1 := hfr (j * 3 + 1)
        have f2 := hfr (j * 3 + 2)
        have HS := Lib.hid (HF2.out.step HX.out hsl)
        have HB2 := Lib.hid ((((HB.out.trans (hb2.mono hwz)).setCell (p := ⟨w.heap.size, j * 3, none⟩) (Nat.le_refl _) (.int .i64 k)).setCell (p := ⟨w.heap.size, j * 3 + 1, none⟩) (Nat.le_refl _) (.string l)).setCell (p := ⟨w.heap.size, j * 3 + 2, none⟩) (Nat.le_refl _) (.slice A' a.items.length c'))
        clear hfr hsl hb2
        go_wp2_with fail
        go_roundw
        case rel => exact ⟨j + 1, by go_num, by omega, HS.out, HB2.out⟩
        case measure => simp [intOf]; omega
      · obtain rfl : j = f.items.length := by omega
        go_wp2_with fail
        go_ret
        exact to_end hl HLS.out HF.out HB.out
theorem toNode_of {n : Nat} (ih : ∀ (B : Nat) (u : Value) (f : Fr) (w : World), Sl w B n u f → B ≤ w.heap.size → f.size ≤ 2097152 → Calls Tryz.prog 108 #[u] w (ToPostT n f w))
    (B : Nat) (k : Int) (l : ByteArray) (u : Value) (a : Fr) (w : World) (hS : Sl w B n u a) (hB : B ≤ w.heap.size) (hsz : a.size ≤ 2097152) :
    Calls Tryz.prog 59 #[.agg #[.int .i64 k, .string l, u]] w (ToNode n k l a w) :=
  (toNodeT_of ih B k l u a w hS hB hsz).mono fun _ _ ⟨v, he, hs, hb⟩ => ⟨v, he, hs.sl, hb⟩
theorem toS_any (n : Nat) : ∀ (B : Nat) (v : Value) (f : Fr) (w : World), Sl w B n v f → B ≤ w.heap.size → f.size ≤ 2097152 → Calls Tryz.prog 108 #[v] w (ToPostT n f w) := toST_any n
theorem own_sl {w w' : World} {n : Nat} {v : Value} {f : Fr} (h : SlP w' (fun g => w.heap.size ≤ g ∧ g < w'.heap.size) n v f) : Sl w' w'.heap.size n v f := SlP.mono (fun _ _ => rfl) (fun _ hg => hg.2) h
end Go.Proofs.YtjjjdieljljcoaaGreatDoor
