/-
  Texts of one proof, one behind the other.
-/
import Derived.Test.YtppliiingoonlaaRows
import Derived.RegionTactic
import Derived.Deep.QuietTactic
import Derived.BigQuiet
import Derived.Lib.Builder
import Derived.Deep.RegionHeld3
import Derived.StillTailTactics
import Derived.OwnWalk
import Derived.Deep.Slices
import Derived.Deep.Fields
import Derived.ChangeSame
import Derived.Lib.SmallJoins
import Derived.Test.YtppliiingoonlaaQeP1

/-
  Constraints with strings as byte arrays: which are valid, what holds, their variables, their text; what a text is read as, one form at a time; a valid constraint is the only one with its text. Of no function of the program.
-/
namespace Go.Proofs.Ytppliiingoonlaa
open Go.RowKit
structure Cx where
  k : Int
  l : ByteArray
  r : ByteArray
  xk : Int
  xl : ByteArray
  xa : Fr
  cs : List Int
  b : Int
def zeroX : Cx := ⟨0, ⟨#[]⟩, ⟨#[]⟩, 0, ⟨#[]⟩, .nil, [], 0⟩
def Cx.cn (c : Cx) : Cn := ⟨c.k, c.l.data.toList, c.r.data.toList, (c.xk, c.xl, c.xa), c.cs, c.b⟩
theorem bytes_eq {a b : ByteArray} (h : a.data.toList = b.data.toList) : a = b := by
  cases a; cases b
  simp only [ByteArray.mk.injEq]
  exact Array.toList_inj.1 h
theorem Cx.cn_inj {c d : Cx} (h : c.cn = d.cn) : c = d := by
  have h1 : c.k = d.k := congrArg Cn.k h
  have h2 : c.l = d.l := bytes_eq (congrArg Cn.l h)
  have h3 : c.r = d.r := bytes_eq (congrArg Cn.r h)
  have h4 : c.xk = d.xk := congrArg (fun x => x.x.1) h
  have h5 : c.xl = d.xl := congrArg (fun x => x.x.2.1) h
  have h6 : c.xa = d.xa := congrArg (fun x => x.x.2.2) h
  have h7 : c.cs = d.cs := congrArg Cn.cs h
  have h8 : c.b = d.b := congrArg Cn.b h
  cases c
  cases d
  simp only at h1 h2 h3 h4 h5 h6 h7 h8
  subst h1 h2 h3 h4 h5 h6 h7 h8
  rfl
theorem zeroX_cn : zeroX.cn = zeroCn := rfl
def validX (c : Cx) : Bool := validC c.cn
def fmtX (c : Cx) : List UInt8 := fmtC c.cn
/-- The words that a valid constraint's text consists of. -/
def wordsC (c : Cn) : List (List UInt8) :=
  if c.k = 1 then [termT c.l, [61], termT c.r]
  else if c.k = 2 then [termT c.l, [33, 61], termT c.r]
  else if c.k = 3 then [termT c.l, [105, 110], ndTxt c.x]
  else if c.k = 4 then [termT c.l, [111, 117, 116], ndTxt c.x]
  else [108, 101, 110] :: (c.cs.map Lib.itoa ++ [Lib.itoa c.b])
/-- What a form reads out of the words. -/
noncomputable def readC (k : Int) (ws : List (List UInt8)) : Cn :=
  if k = 1 ∨ k = 2 then (if ws.length ≠ 3 then zeroCn else ⟨k, readT (ws.getD 0 []), readT (ws.getD 2 []), zeroNd, [], 0⟩)
  else if k = 3 ∨ k = 4 then (if ws.length ≠ 3 then zeroCn else ⟨k, readT (ws.getD 0 []), [], readX (ws.getD 2 []), [], 0⟩)
  else (if ws.length ≠ 5 then zeroCn else ⟨k, [], [], zeroNd, [readN (ws.getD 1 []), readN (ws.getD 2 []), readN (ws.getD 3 [])], readN (ws.getD 4 [])⟩)
theorem valid_kinds {c : Cn} (h : validC c = true) : c.k = 1 ∨ c.k = 2 ∨ c.k = 3 ∨ c.k = 4 ∨ c.k = 5 := by
  unfold validC at h
  by_cases h12 : c.k = 1 ∨ c.k = 2
  · rcases h12 with h | h <;> simp [h]
  · rw [if_neg h12] at h
    by_cases h34 : c.k = 3 ∨ c.k = 4
    · rcases h34 with h | h <;> simp [h]
    · rw [if_neg h34] at h
      by_cases h5 : c.k = 5
      · simp [h5]
      · rw [if_neg h5] at h
        cases h
/-- What a valid constraint of the first two forms has. -/
theorem valid_terms {c : Cn} (h : validC c = true) (hk : c.k = 1 ∨ c.k = 2) : isT c.l = true ∧ isT c.r = true ∧ c.x = zeroNd ∧ c.cs = [] ∧ c.b = 0 := by
  unfold validC at h
  rw [if_pos hk] at h
  simp only [Bool.and_eq_true, decide_eq_true_eq] at h
  obtain ⟨⟨⟨hl, hr⟩, hx⟩, hc, hb⟩ := h
  exact ⟨hl, hr, isZ_zero hx, List.length_eq_zero_iff.1 hc, hb⟩
theorem valid_lang {c : Cn} (h : validC c = true) (hk : c.k = 3 ∨ c.k = 4) : isT c.l = true ∧ c.r = [] ∧ validRx c.x.1 c.x.2.1 c.x.2.2 = true ∧ c.cs = [] ∧ c.b = 0 := by
  unfold validC at h
  rw [if_neg (by omega), if_pos hk] at h
  simp only [Bool.and_eq_true, decide_eq_true_eq] at h
  obtain ⟨⟨⟨hl, hr⟩, hx⟩, hc, hb⟩ := h
  exact ⟨hl, List.length_eq_zero_iff.1 hr, hx, List.length_eq_zero_iff.1 hc, hb⟩
theorem valid_len {c : Cn} (h : validC c = true) (hk : c.k = 5) : c.l = [] ∧ c.r = [] ∧ c.x = zeroNd ∧ (∃ a d e, c.cs = [a, d, e] ∧ (-9 ≤ a ∧ a ≤ 9) ∧ (-9 ≤ d ∧ d ≤ 9) ∧ (-9 ≤ e ∧ e ≤ 9)) ∧ -99 ≤ c.b ∧ c.b ≤ 99 := by
  unfold validC at h
  rw [if_neg (by omega), if_neg (by omega), if_pos hk] at h
  simp only [Bool.and_eq_true, decide_eq_true_eq] at h
  obtain ⟨⟨⟨⟨hl, hr⟩, hx⟩, hcs, h3'⟩, hb⟩ := h
  refine ⟨List.length_eq_zero_iff.1 hl, List.length_eq_zero_iff.1 hr, isZ_zero hx, ?_, ?_⟩
  · generalize c.cs = cs at *
    match cs, h3' with
    | [a, d, e], _ =>
      simp only [List.all_cons, List.all_nil, Bool.and_true, Bool.and_eq_true, inR, decide_eq_true_eq] at hcs
      exact ⟨a, d, e, rfl, hcs.1, hcs.2.1, hcs.2.2⟩
  · simp only [inR, Bool.and_eq_true, decide_eq_true_eq] at hb
    exact hb
theorem words_fmt {c : Cn} (h : validC c = true) : spl 32 (fmtC c) = wordsC c := by
  have hf : fmtC c = bodyT c := if_pos h
  rw [hf]
  rcases valid_kinds h with hk | hk | hk | hk | hk
  · obtain ⟨hl, hr, _⟩ := valid_terms h (.inl hk)
    rw [show bodyT c = termT c.l ++ 32 :: ([61] ++ 32 :: termT c.r) by simp [bodyT, hk], show wordsC c = [termT c.l, [61], termT c.r] by simp [wordsC, hk], spl_three (noSp_term hl) (noSp_cons (by decide) noSp_nil) (noSp_term hr)]
  · obtain ⟨hl, hr, _⟩ := valid_terms h (.inr hk)
    rw [show bodyT c = termT c.l ++ 32 :: ([33, 61] ++ 32 :: termT c.r) by simp [bodyT, hk], show wordsC c = [termT c.l, [33, 61], termT c.r] by simp [wordsC, hk], spl_three (noSp_term hl) (noSp_cons (by decide) (noSp_cons (by decide) noSp_nil)) (noSp_term hr)]
  · obtain ⟨hl, _, hx, _⟩ := valid_lang h (.inl hk)
    rw [show bodyT c = termT c.l ++ 32 :: ([105, 110] ++ 32 :: ndTxt c.x) by simp [bodyT, hk], show wordsC c = [termT c.l, [105, 110], ndTxt c.x] by simp [wordsC, hk], spl_three (noSp_term hl) (noSp_cons (by decide) (noSp_cons (by decide) noSp_nil)) (noSp_rx hx)]
  · obtain ⟨hl, _, hx, _⟩ := valid_lang h (.inr hk)
    rw [show bodyT c = termT c.l ++ 32 :: ([111, 117, 116] ++ 32 :: ndTxt c.x) by simp [bodyT, hk], show wordsC c = [termT c.l, [111, 117, 116], ndTxt c.x] by simp [wordsC, hk], spl_three (noSp_term hl) (noSp_cons (by decide) (noSp_cons (by decide) (noSp_cons (by decide) noSp_nil))) (noSp_rx hx)]
  · obtain ⟨_, _, _, ⟨a, d, e, hcs, _⟩, _⟩ := valid_len h hk
    rw [show bodyT c = [108, 101, 110] ++ 32 :: (Lib.itoa a ++ 32 :: (Lib.itoa d ++ 32 :: (Lib.itoa e ++ 32 :: Lib.itoa c.b))) by simp [bodyT, hk, hcs, numsT], show wordsC c = [[108, 101, 110], Lib.itoa a, Lib.itoa d, Lib.itoa e, Lib.itoa c.b] by simp [wordsC, hk, hcs]]
    rw [spl_app (noSp_cons (by decide) (noSp_cons (by decide) (noSp_cons (by decide) noSp_nil))), spl_app (noSp_itoa a), spl_app (noSp_itoa d), spl_app (noSp_itoa e), spl_none 32 _ (noSp_itoa c.b)]
/-- The form of a valid constraint reads it out of its text. -/
theorem read_fmt {c : Cn} (h : validC c = true) : readC c.k (spl 32 (fmtC c)) = c := by
  rw [words_fmt h]
  rcases valid_kinds h with hk | hk | hk | hk | hk
  · obtain ⟨hl, hr, hx, hc, hb⟩ := valid_terms h (.inl hk)
    rw [show wordsC c = [termT c.l, [61], termT c.r] by simp [wordsC, hk], hk]
    exact (cn_ext hk (readT_term hl).symm (readT_term hr).symm hx hc hb).symm
  · obtain ⟨hl, hr, hx, hc, hb⟩ := valid_terms h (.inr hk)
    rw [show wordsC c = [termT c.l, [33, 61], termT c.r] by simp [wordsC, hk], hk]
    exact (cn_ext hk (readT_term hl).symm (readT_term hr).symm hx hc hb).symm
  · obtain ⟨hl, hr, hx, hc, hb⟩ := valid_lang h (.inl hk)
    rw [show wordsC c = [termT c.l, [105, 110], ndTxt c.x] by simp [wordsC, hk], hk]
    exact (cn_ext hk (readT_term hl).symm hr (readX_text hx).symm hc hb).symm
  · obtain ⟨hl, hr, hx, hc, hb⟩ := valid_lang h (.inr hk)
    rw [show wordsC c = [termT c.l, [111, 117, 116], ndTxt c.x] by simp [wordsC, hk], hk]
    exact (cn_ext hk (readT_term hl).symm hr (readX_text hx).symm hc hb).symm
  · obtain ⟨hl, hr, hx, ⟨a, d, e, hcs, ha, hd, he⟩, hb⟩ := valid_len h hk
    rw [show wordsC c = [[108, 101, 110], Lib.itoa a, Lib.itoa d, Lib.itoa e, Lib.itoa c.b] by simp [wordsC, hk, hcs], hk]
    refine (cn_ext hk hl hr hx ?_ ?_).symm
    · show c.cs = [readN (Lib.itoa a), readN (Lib.itoa d), readN (Lib.itoa e)]
      rw [readN_itoa (by omega) (by omega), readN_itoa (by omega) (by omega), readN_itoa (by omega) (by omega), hcs]
    · show c.b = readN (Lib.itoa c.b)
      rw [readN_itoa (by omega) (by omega)]
/-- The only valid constraint with the text, and true; the zero value and false if there is none. -/
def ParsedX (s : List UInt8) (ok : Bool) (c : Cx) : Prop := (ok = true ∧ validX c = true ∧ fmtX c = s) ∨ (ok = false ∧ c = zeroX ∧ ∀ d, validX d = true → fmtX d ≠ s)
theorem fmtX_inj {c d : Cx} (hc : validX c = true) (hd : validX d = true) (h : fmtX c = fmtX d) : c = d := by
  have h1 := parse_fmt hc
  have h2 := parse_fmt hd
  have h' : fmtC c.cn = fmtC d.cn := h
  rw [h'] at h1
  exact Cx.cn_inj (h1.symm.trans h2)
theorem ParsedX.unique {s : List UInt8} {ok ok' : Bool} {c c' : Cx} (h : ParsedX s ok c) (h' : ParsedX s ok' c') : ok = ok' ∧ c = c' := by
  rcases h with ⟨rfl, hv, hf⟩ | ⟨rfl, rfl, hn⟩ <;> rcases h' with ⟨rfl, hv', hf'⟩ | ⟨rfl, rfl, hn'⟩
  · exact ⟨rfl, fmtX_inj hv hv' (hf.trans hf'.symm)⟩
  · exact absurd hf (hn' c hv)
  · exact absurd hf' (hn c' hv')
  · exact ⟨rfl, rfl⟩

/-- What the letters of a term stand for. -/
def appL (x y z : ByteArray) (l : List UInt8) : List UInt8 := limB (subL (appF x y z) l)
/-- Whether a word belongs to the language, however long it is. -/
def inLang (k : Int) (l : ByteArray) (a : Fr) (s : List UInt8) : Bool := nodeM s k l.data.toList (mts s a) 0 s.length
def sumX (cs : List Int) (x y z : ByteArray) : Int := cs.getD 0 0 * x.size + cs.getD 1 0 * y.size + cs.getD 2 0 * z.size
def holdsX (c : Cx) (x y z : ByteArray) : Bool :=
  if c.k = 1 then decide (appL x y z c.l.data.toList = appL x y z c.r.data.toList)
  else if c.k = 2 then !decide (appL x y z c.l.data.toList = appL x y z c.r.data.toList)
  else if c.k = 3 then inLang c.xk c.xl c.xa (appL x y z c.l.data.toList)
  else if c.k = 4 then !inLang c.xk c.xl c.xa (appL x y z c.l.data.toList)
  else decide (sumX c.cs x y z ≤ c.b)
def holdsFor (c : Cx) (x y z : ByteArray) : Bool := validX c && (isV x y z && holdsX c x y z)
/-- The variables of coefficients that are not zero, from place j on. -/
def coefL : Nat → List Int → List UInt8
  | _, [] => []
  | j, a :: r => (if a ≠ 0 then [UInt8.ofNat (88 + j)] else []) ++ coefL (j + 1) r
def varsX (c : Cx) : List UInt8 := if validX c then varsL (c.l.data.toList ++ c.r.data.toList ++ coefL 0 c.cs) else []
theorem isT_len {l : List UInt8} (h : isT l = true) : l.length ≤ 12 := by
  unfold isT at h
  simp only [Bool.and_eq_true, decide_eq_true_eq] at h
  exact h.2
/-- A valid constraint's numbers. -/
theorem valid_cs {c : Cx} (h : validX c = true) : c.cs = [] ∨ ∃ a d e, c.cs = [a, d, e] ∧ (-9 ≤ a ∧ a ≤ 9) ∧ (-9 ≤ d ∧ d ≤ 9) ∧ (-9 ≤ e ∧ e ≤ 9) := by
  rcases valid_kinds (c := c.cn) h with hk | hk | hk | hk | hk
  · exact .inl (valid_terms h (.inl hk)).2.2.2.1
  · exact .inl (valid_terms h (.inr hk)).2.2.2.1
  · exact .inl (valid_lang h (.inl hk)).2.2.2.1
  · exact .inl (valid_lang h (.inr hk)).2.2.2.1
  · exact .inr (valid_len h hk).2.2.2.1
theorem valid_strs {c : Cx} (h : validX c = true) : c.l.size ≤ 12 ∧ c.r.size ≤ 12 := by
  have k : ∀ s : ByteArray, isT s.data.toList = true → s.size ≤ 12 := fun s hs => by simpa using isT_len hs
  have k0 : ∀ s : ByteArray, s.data.toList = [] → s.size ≤ 12 := fun s hs => by
    have := congrArg List.length hs
    rw [show s.data.toList.length = s.size by simp, List.length_nil] at this
    omega
  rcases valid_kinds (c := c.cn) h with hk | hk | hk | hk | hk
  · exact ⟨k _ (valid_terms h (.inl hk)).1, k _ (valid_terms h (.inl hk)).2.1⟩
  · exact ⟨k _ (valid_terms h (.inr hk)).1, k _ (valid_terms h (.inr hk)).2.1⟩
  · exact ⟨k _ (valid_lang h (.inl hk)).1, k0 _ (valid_lang h (.inl hk)).2.1⟩
  · exact ⟨k _ (valid_lang h (.inr hk)).1, k0 _ (valid_lang h (.inr hk)).2.1⟩
  · exact ⟨k0 _ (valid_len h hk).1, k0 _ (valid_len h hk).2.1⟩
theorem strL_self (s : ByteArray) : strL s.data.toList = s := bytes_eq (strL_list _)
end Go.Proofs.Ytppliiingoonlaa

/-
  A slice that holds a row of expressions as a tree of its own: no block is met twice, each is an ordinary one. Of no function of the program.
-/
namespace Go.Proofs.Ytppliiingoonlaa
open Go.RowKit
/-- Block g is an ordinary row of cells. -/
def Plain (w : World) (g : Nat) : Prop := ∃ cur T, w.heap[g]? = some (.cells cur T (0, 0))
theorem Plain.same {w w' : World} {g : Nat} (h : Plain w g) (hs : w'.heap[g]? = w.heap[g]?) : Plain w' g := by
  obtain ⟨cur, T, h⟩ := h
  exact ⟨cur, T, hs.trans h⟩
/-- A slice holds the row f in the blocks S, each met once. -/
def SlT (w : World) : Nat → (Nat → Prop) → Value → Fr → Prop
  | 0, _, _, _ => False
  | n + 1, S, v, f => f.items.length ≤ 9223372036854775807 ∧ ((f.items.length = 0 ∧ ∃ A c, v = .slice A 0 c) ∨ ∃ (g o c : Nat) (K : Nat → Nat → Prop), v = .slice (some ⟨g, o, none⟩) f.items.length c ∧ S g ∧ Plain w g ∧
      (∀ j h, K j h → S h ∧ h ≠ g) ∧ (∀ i j h, K i h → K j h → i = j) ∧
      ∀ j k l a, f.items[j]? = some (k, l, a) → l.size ≤ 9223372036854775807 ∧ ∃ u, ElAt w g (o + j * 3) k l u ∧ SlT w n (K j) u a)
theorem SlT.mono {w w' : World} : ∀ {n : Nat} {S S' : Nat → Prop} {v : Value} {f : Fr}, (∀ g, S g → w'.heap[g]? = w.heap[g]?) → (∀ g, S g → S' g) → SlT w n S v f → SlT w' n S' v f
  | 0, _, _, _, _, _, _, h => h
  | n + 1, S, S', v, f, hs, hS, ⟨hl, h⟩ => by
    refine ⟨hl, ?_⟩
    rcases h with h | ⟨g, o, c, K, hv, hg, hp, hK, hd, hc⟩
    · exact .inl h
    · refine .inr ⟨g, o, c, K, hv, hS g hg, hp.same (hs g hg), fun j h hj => ⟨hS h (hK j h hj).1, (hK j h hj).2⟩, hd, fun j k l a hj => ?_⟩
      obtain ⟨hl', u, he, h4⟩ := hc j k l a hj
      exact ⟨hl', u, he.same (hs g hg), h4.mono (fun h hh => hs h (hK j h hh).1) (fun _ hh => hh)⟩
theorem SlT.sl {w : World} : ∀ {n : Nat} {S : Nat → Prop} {v : Value} {f : Fr}, SlT w n S v f → SlP w S n v f
  | 0, _, _, _, h => h
  | n + 1, S, v, f, ⟨hl, h⟩ => by
    refine ⟨hl, ?_⟩
    rcases h with h | ⟨g, o, c, K, hv, hg, hp, hK, hd, hc⟩
    · exact .inl h
    · refine .inr ⟨g, o, c, hv, hg, fun j k l a hj => ?_⟩
      obtain ⟨hl', u, he, h4⟩ := hc j k l a hj
      exact ⟨hl', u, he, h4.sl.mono (fun _ _ => rfl) (fun h hh => (hK j h hh).1)⟩
theorem SlT.more {w : World} : ∀ {n : Nat} {S : Nat → Prop} {v : Value} {f : Fr}, SlT w n S v f → SlT w (n + 1) S v f
  | 0, _, _, _, h => h.elim
  | n + 1, S, v, f, ⟨hl, h⟩ => by
    refine ⟨hl, ?_⟩
    rcases h with h | ⟨g, o, c, K, hv, hg, hp, hK, hd, hc⟩
    · exact .inl h
    · refine .inr ⟨g, o, c, K, hv, hg, hp, hK, hd, fun j k l a hj => ?_⟩
      obtain ⟨hl', u, he, h4⟩ := hc j k l a hj
      exact ⟨hl', u, he, h4.more⟩
theorem SlT.shape {w : World} {n : Nat} {S : Nat → Prop} {v : Value} {f : Fr} (h : SlT w n S v f) : ∃ A c, v = .slice A f.items.length c := h.sl.shape
/-- An empty slice. -/
theorem SlT.none (w : World) (n : Nat) (S : Nat → Prop) (A : Option Addr) (c : Nat) : SlT w (n + 1) S (.slice A 0 c) .nil := ⟨by simp [Fr.items], .inl ⟨rfl, A, c, rfl⟩⟩
end Go.Proofs.Ytppliiingoonlaa

/-
  What stays where only some blocks turn, and new ones. Of no function of the program.
-/
namespace Go.Proofs.Ytppliiingoonlaa
open Go.RowKit
/-- Only blocks of S have turned, and new ones. -/
structure Chg (S : Nat → Prop) (w w' : World) : Prop where
  os : w'.os = w.os
  tape : w'.tape = w.tape
  output : w'.output = w.output
  size : w.heap.size ≤ w'.heap.size
  block : ∀ g, g < w.heap.size → ¬ S g → w'.heap[g]? = w.heap[g]?
theorem Chg.refl (S : Nat → Prop) (w : World) : Chg S w w := ⟨rfl, rfl, rfl, Nat.le_refl _, fun _ _ _ => rfl⟩
theorem Chg.trans {S : Nat → Prop} {a b c : World} (h : Chg S a b) (k : Chg S b c) : Chg S a c :=
  ⟨k.os.trans h.os, k.tape.trans h.tape, k.output.trans h.output, Nat.le_trans h.size k.size, fun g hg hs => (k.block g (Nat.lt_of_lt_of_le hg h.size) hs).trans (h.block g hg hs)⟩
theorem Chg.more {S S' : Nat → Prop} {w w' : World} (h : Chg S w w') (hS : ∀ g, S g → S' g) : Chg S' w w' := ⟨h.os, h.tape, h.output, h.size, fun g hg hs => h.block g hg (fun e => hs (hS g e))⟩
theorem Chg.set {S : Nat → Prop} {w w' : World} (h : Chg S w w') {a : Addr} (ha : S a.block) (v : Value) : Chg S w (w'.setCell a v) :=
  ⟨h.os, h.tape, h.output, by simpa [World.setCell] using h.size, fun g hg hs => (Below.heap_setCell _ _ _ g (fun e => hs (by rw [e]; exact ha))).trans (h.block g hg hs)⟩
theorem Chg.below {S : Nat → Prop} {w w' w2 : World} (h : Chg S w w') (hb : Below w'.heap.size w' w2) : Chg S w w2 :=
  ⟨hb.os.trans h.os, hb.tape.trans h.tape, hb.output.trans h.output, Nat.le_trans h.size hb.size, fun g hg hs => (hb.block g (Nat.lt_of_lt_of_le hg h.size)).trans (h.block g hg hs)⟩
/-- In blocks of the call's own. -/
def OwnB (w w' : World) (g : Nat) : Prop := w.heap.size ≤ g ∧ g < w'.heap.size
theorem Chg.cell {S : Nat → Prop} {w w' : World} (h : Chg S w w') {p : Addr} (hp : p.block < w.heap.size) (hn : ¬ S p.block) : w'.cell? p = w.cell? p := World.cell?_of_block (h.block p.block hp hn)
theorem Chg.old {S : Nat → Prop} {w w' : World} (h : Chg S w w') {B : Nat} (hS : ∀ g, S g → B ≤ g) (hB : B ≤ w.heap.size) : Below B w w' :=
  ⟨h.os, h.tape, h.output, h.size, fun g hg => h.block g (Nat.lt_of_lt_of_le hg hB) (fun hs => Nat.lt_irrefl _ (Nat.lt_of_lt_of_le hg (hS g hs)))⟩
end Go.Proofs.Ytppliiingoonlaa

/-
  What is left of a number. Of no function of the program.
-/
namespace Go.Proofs.Ytppliiingoonlaa
open Go.RowKit
/-- What is left. -/
def leftOf (m : Nat) (z : Int) : Int := if (m : Int) ≤ z then z - m else -1
theorem leftOf_yes {m : Nat} {z : Int} (h : (m : Int) ≤ z) : leftOf m z = z - m := by unfold leftOf; rw [if_pos h]
theorem leftOf_no {m : Nat} {z : Int} (h : ¬ (m : Int) ≤ z) : leftOf m z = -1 := by unfold leftOf; rw [if_neg h]
def SzPost (m : Nat) (z : Int) (w : World) (e : Ending) (w' : World) : Prop := e = .returned (.int .i64 (leftOf m z)) ∧ Below w.heap.size w w'
end Go.Proofs.Ytppliiingoonlaa

/-
  Rows of one-cell elements behind a slice: as they came in, and in blocks of the call's own. Of no function of the program.
  What the laws' own helpers answer over slices of bools: szBoolS, toBoolS, eqBoolS, markBoolS, heldBoolS.
  What the laws' own helpers answer over slices of ints: szIntS, toIntS, eqIntS, markIntS, heldIntS.
  Rows of rows behind a slice: as they came in, and in blocks of the call's own. Of no function of the program.
  What the laws' own helpers answer over slices of slices of ints: szIntSS, toIntSS, eqIntSS, markIntSS, heldIntSS.
  Boxes of two cells. Of no function of the program.
  What the laws' own helpers answer over automata: szDfa, toDfa, eqDfa, markDfa, heldDfa.
  What stays of automata and boxes over calls, for the walks of exact laws. Of no function of the program.
-/
namespace Go.Proofs.Ytppliiingoonlaa
open Go.RowKit
/-- What lies behind a slice; its block is in S. -/
def RowV (w : World) (S : Nat → Prop) (v : Value) (xs : List Value) : Prop :=
  xs.length ≤ 9223372036854775807 ∧ ∃ A c, v = .slice A xs.length c ∧ ∀ (j : Nat) (x : Value), xs[j]? = some x → ∃ ad, A = some ad ∧ S ad.block ∧ w.cell? (ad.add j) = some x
theorem add_block (a : Addr) (n : Nat) : (a.add n).block = a.block := by unfold Addr.add; split <;> rfl
theorem RowV.mono {w w' : World} {S S' : Nat → Prop} {v : Value} {xs : List Value} (h : RowV w S v xs) (hs : ∀ g, S g → w'.heap[g]? = w.heap[g]?) (hS : ∀ g, S g → S' g) : RowV w' S' v xs := by
  obtain ⟨hl, A, c, rfl, hc⟩ := h
  refine ⟨hl, A, c, rfl, fun j x hx => ?_⟩
  obtain ⟨ad, rfl, hb, hce⟩ := hc j x hx
  exact ⟨ad, rfl, hS _ hb, (World.cell?_of_block (by rw [add_block]; exact hs _ hb)).trans hce⟩
theorem RowV.below {w w' : World} {B B' : Nat} {v : Value} {xs : List Value} (h : RowV w (· < B) v xs) (hb : Below B w w') (hB : B ≤ B') : RowV w' (· < B') v xs :=
  h.mono (fun g hg => hb.block g hg) (fun _ hg => Nat.lt_of_lt_of_le hg hB)
theorem cell_in {w : World} {p : Addr} {u : Value} (h : w.cell? p = some u) : p.block < w.heap.size := by
  by_cases hl : p.block < w.heap.size
  · exact hl
  · have : w.heap[p.block]? = none := Array.getElem?_eq_none (by omega)
    simp [World.cell?, this] at h
/-- Over a call that turns nothing old. -/
theorem RowV.kept {w w' : World} {S : Nat → Prop} {v : Value} {xs : List Value} (h : RowV w S v xs) (hb : Below w.heap.size w w') : RowV w' S v xs := by
  obtain ⟨hl, A, c, rfl, hc⟩ := h
  refine ⟨hl, A, c, rfl, fun j x hx => ?_⟩
  obtain ⟨ad, rfl, hS, hce⟩ := hc j x hx
  have hlt := cell_in hce
  exact ⟨ad, rfl, hS, (hb.cell hlt).trans hce⟩
theorem RowV.shape {w : World} {S : Nat → Prop} {v : Value} {xs : List Value} (h : RowV w S v xs) : ∃ A c, v = .slice A xs.length c := by
  obtain ⟨_, A, c, h, _⟩ := h
  exact ⟨A, c, h⟩
/-- One element's cell. -/
theorem RowV.at {w : World} {S : Nat → Prop} {A : Option Addr} {n c : Nat} {xs : List Value} (h : RowV w S (.slice A n c) xs) {j : Nat} (hj : j < xs.length) : ∃ ad, A = some ad ∧ S ad.block ∧ w.cell? (ad.add j) = some xs[j] := by
  obtain ⟨_, A', c', e, hc⟩ := h
  cases e
  exact hc j _ (List.getElem?_eq_getElem hj)

/-- .. in a block of its own. -/
def RowO (w : World) (S : Nat → Prop) (v : Value) (xs : List Value) : Prop :=
  xs.length ≤ 9223372036854775807 ∧ ∃ A c, v = .slice A xs.length c ∧ (xs = [] ∨ ∃ (g : Nat) (cur : Array Value) (T : TypeId), A = some ⟨g, 0, none⟩ ∧ S g ∧ w.heap[g]? = some (.cells cur T (0, 0)) ∧ ∀ (j : Nat) (x : Value), xs[j]? = some x → cur[j]? = some x)
theorem RowO.row {w : World} {S : Nat → Prop} {v : Value} {xs : List Value} (h : RowO w S v xs) : RowV w S v xs := by
  obtain ⟨hl, A, c, rfl, hc⟩ := h
  refine ⟨hl, A, c, rfl, fun j x hx => ?_⟩
  rcases hc with rfl | ⟨g, cur, T, rfl, hg, hh, hx'⟩
  · simp at hx
  · exact ⟨_, rfl, hg, by rw [Addr.add_lit, Nat.zero_add, cell_of_row w g j cur T (0, 0) hh]; exact hx' j x hx⟩
theorem RowO.mono {w w' : World} {S S' : Nat → Prop} {v : Value} {xs : List Value} (h : RowO w S v xs) (hs : ∀ g, S g → w'.heap[g]? = w.heap[g]?) (hS : ∀ g, S g → S' g) : RowO w' S' v xs := by
  obtain ⟨hl, A, c, rfl, hc⟩ := h
  refine ⟨hl, A, c, rfl, ?_⟩
  rcases hc with rfl | ⟨g, cur, T, rfl, hg, hh, hx'⟩
  · exact .inl rfl
  · exact .inr ⟨g, cur, T, rfl, hS g hg, (hs g hg).trans hh, hx'⟩
theorem RowO.shape {w : World} {S : Nat → Prop} {v : Value} {xs : List Value} (h : RowO w S v xs) : ∃ A c, v = .slice A xs.length c := h.row.shape
theorem RowO.nil (w : World) (S : Nat → Prop) (A : Option Addr) (c : Nat) : RowO w S (.slice A 0 c) [] := ⟨Nat.zero_le _, A, c, rfl, .inl rfl⟩
/-- The library's own rows. -/
theorem RowO.of_owns {w : World} {base : Nat} {e : TypeId} {v : Value} {n : Nat} {xs : List Value} (h : w.ownsRow base e 1 v n xs) (hn : n ≤ 9223372036854775807) : RowO w (fun g => v.ownBlock = some g) v xs := by
  obtain ⟨hx, hc⟩ := h
  rw [Nat.mul_one] at hx
  refine ⟨by omega, ?_⟩
  rcases hc with ⟨rfl, h0⟩ | ⟨g, cap, cur, rfl, _, hh, _, _, _, ht⟩
  · rw [hx, h0]
    exact ⟨none, 0, rfl, .inl (List.length_eq_zero_iff.1 (by omega))⟩
  · rw [hx]
    refine ⟨_, cap, rfl, .inr ⟨g, cur, e, rfl, rfl, hh, fun j x hj => ?_⟩⟩
    rw [Nat.mul_one] at ht
    have hjn : j < n := by have := (List.getElem?_eq_some_iff.1 hj).1; omega
    rw [← ht, List.getElem?_take_of_lt hjn, Array.getElem?_toList] at hj
    exact hj
/-- A store into it. -/
theorem RowO.set {w : World} {S : Nat → Prop} {A : Option Addr} {n c : Nat} {xs : List Value} (h : RowO w S (.slice A n c) xs) {j : Nat} (hj : j < xs.length) :
    ∃ g, A = some ⟨g, 0, none⟩ ∧ S g ∧ g < w.heap.size ∧ (∀ w1 : World, w1.heap[g]? = w.heap[g]? → (∃ x, w1.cell? ⟨g, j, none⟩ = some x) ∧ w1.frozen? ⟨g, j, none⟩ = false ∧
      ∀ u, RowO (w1.setCell ⟨g, j, none⟩ u) S (.slice A n c) (xs.set j u)) := by
  obtain ⟨hl, A', c', e, hc⟩ := h
  cases e
  rcases hc with rfl | ⟨g, cur, T, rfl, hg, hh, hx⟩
  · simp at hj
  · have hlt : g < w.heap.size := (Array.getElem?_eq_some_iff.1 hh).1
    have hcj : cur[j]? = some xs[j] := hx j _ (List.getElem?_eq_getElem hj)
    refine ⟨g, rfl, hg, hlt, fun w1 h1 => ?_⟩
    have hh1 := h1.trans hh
    refine ⟨⟨_, (cell_of_row w1 g j cur T (0, 0) hh1).trans hcj⟩, frozen_of_row w1 g j cur T hh1, fun u => ?_⟩
    have h2 := heap_setCell_same w1 g j cur T u hh1
    refine ⟨by simpa using hl, _, c, by simp, .inr ⟨g, _, T, rfl, hg, h2, fun i x hi => ?_⟩⟩
    have hjc : j < cur.size := (Array.getElem?_eq_some_iff.1 hcj).1
    rw [Array.getElem?_setIfInBounds]
    rw [List.getElem?_set] at hi
    by_cases e : j = i
    · subst e
      rw [if_pos rfl] at hi
      rw [if_pos hj] at hi
      rw [if_pos rfl, if_pos hjc]
      exact hi
    · rw [if_neg e] at hi
      rw [if_neg e]
      exact hx i x hi
/-- A store of what is to come in its place. -/
theorem set_step {α : Type} (f : Nat → α) (xs : List α) (j : Nat) (hj : j < xs.length) : ((List.range j).map f ++ xs.drop j).set j (f j) = (List.range (j + 1)).map f ++ xs.drop (j + 1) := by
  have hl : ((List.range j).map f).length = j := by simp
  rw [List.set_append_right _ _ (by omega), hl, Nat.sub_self, List.drop_eq_getElem_cons hj, List.set_cons_zero, List.range_succ, List.map_append, List.append_assoc]
  rfl
end Go.Proofs.Ytppliiingoonlaa
namespace Go.Proofs.Ytppliiingoonlaa
open Go.RowKit
/-- Bools as a row's cells. -/
def bools (l : List Bool) : List Value := l.map fun x => .bool x
theorem bools_length (l : List Bool) : (bools l).length = l.length := by simp [bools]
theorem bools_at {l : List Bool} {j : Nat} (h : j < l.length) : (bools l)[j]'(by rw [bools_length]; exact h) = .bool (l[j]) := by simp [bools]
theorem boolInfo : (Try.prog.info? 4).map (fun i => (i.zero, i.size, i.bytes)) = some (some (.bool false), 1, 1) := by kernel_rfl

/-- A copy of its own. -/
def Copy (xs : List Value) (w : World) (e : Ending) (w' : World) : Prop := ∃ v, e = .returned v ∧ RowO w' (OwnB w w') v xs ∧ Below w.heap.size w w'
/-- The marks from k on. -/
def boolMark (k n : Nat) : List Bool := (List.range n).map fun (j : Nat) => (((k : Int) + (j : Int)) % 3 == 0)
theorem boolMark_length (k n : Nat) : (boolMark k n).length = n := by simp [boolMark]
theorem boolMark_at {k n j : Nat} (h : j < n) : (boolMark k n)[j]'(by rw [boolMark_length]; exact h) = (((k : Int) + (j : Int)) % 3 == 0) := by simp [boolMark]

end Go.Proofs.Ytppliiingoonlaa
namespace Go.Proofs.Ytppliiingoonlaa
open Go.RowKit
/-- Ints as a row's cells. -/
def ints (l : List Int) : List Value := l.map fun x => .int .i64 x
theorem ints_length (l : List Int) : (ints l).length = l.length := by simp [ints]
theorem ints_at {l : List Int} {j : Nat} (h : j < l.length) : (ints l)[j]'(by rw [ints_length]; exact h) = .int .i64 (l[j]) := by simp [ints]
theorem intInfo : (Try.prog.info? 3).map (fun i => (i.zero, i.size, i.bytes)) = some (some (.int .i64 0), 1, 8) := by kernel_rfl

/-- The marks from k on. -/
def intMark (k n : Nat) : List Int := (List.range n).map fun (j : Nat) => ((k + j : Nat) : Int)
theorem intMark_length (k n : Nat) : (intMark k n).length = n := by simp [intMark]
theorem intMark_at {k n j : Nat} (h : j < n) : (intMark k n)[j]'(by rw [intMark_length]; exact h) = ((k + j : Nat) : Int) := by simp [intMark]

end Go.Proofs.Ytppliiingoonlaa
namespace Go.Proofs.Ytppliiingoonlaa
open Go.RowKit
/-- A row of rows. -/
def RowVV (w : World) (S : Nat → Prop) (v : Value) (rss : List (List Value)) : Prop :=
  ∃ us : List Value, us.length = rss.length ∧ RowV w S v us ∧ ∀ (j : Nat) (u : Value) (r : List Value), us[j]? = some u → rss[j]? = some r → RowV w S u r
theorem RowVV.mono {w w' : World} {S S' : Nat → Prop} {v : Value} {rss : List (List Value)} (h : RowVV w S v rss) (hs : ∀ g, S g → w'.heap[g]? = w.heap[g]?) (hS : ∀ g, S g → S' g) : RowVV w' S' v rss := by
  obtain ⟨us, hl, hv, hr⟩ := h
  exact ⟨us, hl, hv.mono hs hS, fun j u r hu hx => (hr j u r hu hx).mono hs hS⟩
theorem RowVV.kept {w w' : World} {S : Nat → Prop} {v : Value} {rss : List (List Value)} (h : RowVV w S v rss) (hb : Below w.heap.size w w') : RowVV w' S v rss := by
  obtain ⟨us, hl, hv, hr⟩ := h
  exact ⟨us, hl, hv.kept hb, fun j u r hu hx => (hr j u r hu hx).kept hb⟩
theorem RowVV.shape {w : World} {S : Nat → Prop} {v : Value} {rss : List (List Value)} (h : RowVV w S v rss) : rss.length ≤ 9223372036854775807 ∧ ∃ A c, v = .slice A rss.length c := by
  obtain ⟨us, hl, hv, _⟩ := h
  obtain ⟨A, c, e⟩ := hv.shape
  rw [hl] at e
  exact ⟨by rw [← hl]; exact hv.1, A, c, e⟩
theorem RowVV.at {w : World} {S : Nat → Prop} {A : Option Addr} {n c : Nat} {rss : List (List Value)} (h : RowVV w S (.slice A n c) rss) {j : Nat} (hj : j < rss.length) :
    ∃ ad u, A = some ad ∧ S ad.block ∧ w.cell? (ad.add j) = some u ∧ RowV w S u rss[j] := by
  obtain ⟨us, hl, hv, hr⟩ := h
  obtain ⟨ad, e, hS, hc⟩ := hv.at (j := j) (by omega)
  exact ⟨ad, _, e, hS, hc, hr j _ _ (List.getElem?_eq_getElem (by omega)) (List.getElem?_eq_getElem hj)⟩

/-- Rows of the call's own, one beside the other. -/
structure RowsP (S : Nat → Prop) (w : World) (us : List Value) (rss : List (List Value)) (K : Nat → Nat → Prop) : Prop where
  len : us.length = rss.length
  row : ∀ (j : Nat) (u : Value) (r : List Value), us[j]? = some u → rss[j]? = some r → RowO w (K j) u r
  sub : ∀ j g, K j g → S g
  lt : ∀ j g, K j g → g < w.heap.size
  sep : ∀ i j g, K i g → K j g → i = j
theorem RowsP.nil (S : Nat → Prop) (w : World) : RowsP S w [] [] (fun _ _ => False) := ⟨rfl, fun j u r h => by simp at h, fun _ _ h => h.elim, fun _ _ h => h.elim, fun _ _ _ h => h.elim⟩
theorem RowsP.keep {S S' : Nat → Prop} {w w' : World} {us : List Value} {rss : List (List Value)} {K : Nat → Nat → Prop} (h : RowsP S w us rss K) (hs : ∀ j g, K j g → w'.heap[g]? = w.heap[g]?) (hS : ∀ j g, K j g → S' g) (hz : w.heap.size ≤ w'.heap.size) : RowsP S' w' us rss K :=
  ⟨h.len, fun j u r hu hr => (h.row j u r hu hr).mono (fun g hg => hs j g hg) (fun _ hg => hg), hS, fun j g hg => Nat.lt_of_lt_of_le (h.lt j g hg) hz, h.sep⟩
/-- One row more. -/
theorem RowsP.push {S : Nat → Prop} {w w1 : World} {us : List Value} {rss : List (List Value)} {K : Nat → Nat → Prop} {u : Value} {r : List Value} (h : RowsP S w us rss K) (hb : Below w.heap.size w w1) (hs : RowO w1 (OwnB w w1) u r) (hS : ∀ g, OwnB w w1 g → S g) :
    RowsP S w1 (us ++ [u]) (rss ++ [r]) (fun j g => if j < us.length then K j g else j = us.length ∧ OwnB w w1 g) := by
  refine ⟨by simp [h.len], fun j u' r' hu hr => ?_, fun j g hg => ?_, fun j g hg => ?_, fun i j g hi hj => ?_⟩
  · by_cases hj : j < us.length
    · rw [List.getElem?_append_left hj] at hu
      rw [List.getElem?_append_left (by rw [← h.len]; exact hj)] at hr
      exact (h.row j u' r' hu hr).mono (fun g hg => hb.block g (h.lt j g hg)) (fun g hg => by simpa [hj] using hg)
    · have e : j = us.length := by
        have := (List.getElem?_eq_some_iff.1 hu).1
        simp at this
        omega
      subst e
      rw [List.getElem?_append_right (Nat.le_refl _), Nat.sub_self] at hu
      rw [List.getElem?_append_right (by rw [h.len]; exact Nat.le_refl _), h.len, Nat.sub_self] at hr
      cases hu
      cases hr
      exact hs.mono (fun _ _ => rfl) (fun g hg => by simpa using hg)
  · by_cases hj : j < us.length
    · exact h.sub j g (by simpa [hj] using hg)
    · simp only [hj, if_false] at hg
      exact hS g hg.2
  · by_cases hj : j < us.length
    · exact Nat.lt_of_lt_of_le (h.lt j g (by simpa [hj] using hg)) hb.size
    · simp only [hj, if_false] at hg
      exact hg.2.2
  · by_cases h1 : i < us.length <;> by_cases h2 : j < us.length <;> simp only [h1, h2, if_true, if_false] at hi hj
    · exact h.sep i j g hi hj
    · have := h.lt i g hi
      have := hj.2.1
      omega
    · have := h.lt j g hj
      have := hi.2.1
      omega
    · omega

/-- A row of rows of the call's own: no block is met twice. -/
def RowOO (w : World) (S : Nat → Prop) (v : Value) (rss : List (List Value)) : Prop :=
  ∃ us K0 K, RowO w K0 v us ∧ RowsP S w us rss K ∧ ∀ g, K0 g → S g ∧ ∀ j, ¬ K j g
theorem RowOO.rows {w : World} {S : Nat → Prop} {v : Value} {rss : List (List Value)} (h : RowOO w S v rss) : RowVV w S v rss := by
  obtain ⟨us, K0, K, ho, hp, hk⟩ := h
  exact ⟨us, hp.len, ho.row.mono (fun _ _ => rfl) (fun g hg => (hk g hg).1), fun j u r hu hr => (hp.row j u r hu hr).row.mono (fun _ _ => rfl) (fun g hg => hp.sub j g hg)⟩
theorem RowOO.mono {w w' : World} {S S' : Nat → Prop} {v : Value} {rss : List (List Value)} (h : RowOO w S v rss) (hs : ∀ g, S g → w'.heap[g]? = w.heap[g]?) (hS : ∀ g, S g → S' g) (hz : w.heap.size ≤ w'.heap.size) : RowOO w' S' v rss := by
  obtain ⟨us, K0, K, ho, hp, hk⟩ := h
  exact ⟨us, K0, K, ho.mono (fun g hg => hs g (hk g hg).1) (fun _ hg => hg), hp.keep (fun j g hg => hs g (hp.sub j g hg)) (fun j g hg => hS g (hp.sub j g hg)) hz, fun g hg => ⟨hS g (hk g hg).1, (hk g hg).2⟩⟩
theorem RowOO.nil (w : World) (S : Nat → Prop) (A : Option Addr) (c : Nat) : RowOO w S (.slice A 0 c) [] := ⟨[], fun _ => False, fun _ _ => False, RowO.nil _ _ _ _, RowsP.nil _ _, fun _ h => h.elim⟩
theorem RowOO.shape {w : World} {S : Nat → Prop} {v : Value} {rss : List (List Value)} (h : RowOO w S v rss) : ∃ A c, v = .slice A rss.length c := h.rows.shape.2
end Go.Proofs.Ytppliiingoonlaa
namespace Go.Proofs.Ytppliiingoonlaa
open Go.RowKit
/-- Rows of ints as cells. -/
def intss (rs : List (List Int)) : List (List Value) := rs.map ints
theorem intss_length (rs : List (List Int)) : (intss rs).length = rs.length := by simp [intss]
theorem intss_at {rs : List (List Int)} {j : Nat} (h : j < rs.length) : (intss rs)[j]'(by rw [intss_length]; exact h) = ints (rs[j]) := by simp [intss]
theorem RowVV.atD {w : World} {S : Nat → Prop} {A : Option Addr} {n c : Nat} {rs : List (List Int)} (h : RowVV w S (.slice A n c) (intss rs)) {j : Nat} (hj : j < rs.length) :
    ∃ ad u, A = some ad ∧ S ad.block ∧ w.cell? (ad.add j) = some u ∧ RowV w S u (ints (rs.getD j [])) := by
  obtain ⟨ad, u, h1, h2, h3, h4⟩ := h.at (j := j) (by rw [intss_length]; exact hj)
  rw [intss_at hj] at h4
  refine ⟨ad, u, h1, h2, h3, ?_⟩
  rw [List.getD_eq_getElem?_getD, List.getElem?_eq_getElem hj]
  exact h4
theorem RowV.intD {w : World} {S : Nat → Prop} {A : Option Addr} {n c : Nat} {r : List Int} (h : RowV w S (.slice A n c) (ints r)) {j : Nat} (hj : j < r.length) : ∃ ad, A = some ad ∧ S ad.block ∧ w.cell? (ad.add j) = some (.int .i64 (r.getD j 0)) := by
  obtain ⟨ad, h1, h2, h3⟩ := h.at (j := j) (by rw [ints_length]; exact hj)
  rw [ints_at hj] at h3
  refine ⟨ad, h1, h2, ?_⟩
  rw [List.getD_eq_getElem?_getD, List.getElem?_eq_getElem hj]
  exact h3
theorem RowV.boolD {w : World} {S : Nat → Prop} {A : Option Addr} {n c : Nat} {r : List Bool} (h : RowV w S (.slice A n c) (bools r)) {j : Nat} (hj : j < r.length) : ∃ ad, A = some ad ∧ S ad.block ∧ w.cell? (ad.add j) = some (.bool (r.getD j false)) := by
  obtain ⟨ad, h1, h2, h3⟩ := h.at (j := j) (by rw [bools_length]; exact hj)
  rw [bools_at hj] at h3
  refine ⟨ad, h1, h2, ?_⟩
  rw [List.getD_eq_getElem?_getD, List.getElem?_eq_getElem hj]
  exact h3
theorem RowV.ints_shape {w : World} {S : Nat → Prop} {v : Value} {r : List Int} (h : RowV w S v (ints r)) : r.length ≤ 9223372036854775807 ∧ ∃ A c, v = .slice A r.length c := by
  obtain ⟨A, c, e⟩ := h.shape
  have hl := h.1
  rw [ints_length] at e hl
  exact ⟨hl, A, c, e⟩
def totR (rs : List (List Int)) : Nat := (rs.map List.length).sum
theorem totR_step {rs : List (List Int)} {j : Nat} (h : j < rs.length) : totR (rs.take (j + 1)) = totR (rs.take j) + (rs[j]).length := by
  rw [List.take_succ_eq_append_getElem h]
  simp only [totR, List.map_append, List.map_cons, List.map_nil, List.sum_append, List.sum_cons, List.sum_nil]
  omega
theorem totR_take (rs : List (List Int)) (j : Nat) : totR (rs.take j) ≤ totR rs := by
  have h := List.take_append_drop j rs
  have : totR rs = totR (rs.take j) + totR (rs.drop j) := by
    conv => lhs; rw [← h]
    simp only [totR, List.map_append, List.sum_append]
  omega

/-- A copy of its own. -/
def Copy2 (rss : List (List Value)) (w : World) (e : Ending) (w' : World) : Prop := ∃ v, e = .returned v ∧ RowOO w' (OwnB w w') v rss ∧ Below w.heap.size w w'
theorem rowInfo : (Try.prog.info? 25).map (fun i => (i.zero, i.size, i.bytes)) = some (some (.slice none 0 0), 1, 24) := by kernel_rfl

/-- The copy so far: the first rows are laid. -/
def Laid2 (w wr : World) (n : Nat) (rss : List (List Value)) (j : Nat) : Prop :=
  ∃ us K, RowO wr (fun g => g = w.heap.size) (.slice (some ⟨w.heap.size, 0, none⟩) n n) (us ++ List.replicate (n - j) (.slice none 0 0)) ∧ us.length = j ∧ RowsP (fun g => w.heap.size < g) wr us (rss.take j) K

/-- The marks of rows. -/
def marksR : Nat → List (List Int) → List (List Int)
  | _, [] => []
  | k, r :: rs => intMark k r.length :: marksR (k + r.length) rs
theorem marksR_length : ∀ (k : Nat) (rs : List (List Int)), (marksR k rs).length = rs.length
  | _, [] => rfl
  | k, r :: rs => by simp [marksR, marksR_length]
theorem marksR_at : ∀ (k : Nat) (rs : List (List Int)) (j : Nat) (h : j < rs.length), (marksR k rs)[j]? = some (intMark (k + totR (rs.take j)) (rs[j]).length)
  | _, [], j, h => by simp at h
  | k, r :: rs, 0, h => by simp [marksR, totR]
  | k, r :: rs, j + 1, h => by
    have := marksR_at (k + r.length) rs j (by simpa using h)
    simp only [marksR, List.getElem?_cons_succ, List.getElem_cons_succ, List.take_succ_cons, this]
    simp [totR, Nat.add_assoc]
theorem marksR_tot : ∀ (k : Nat) (rs : List (List Int)), totR (marksR k rs) = totR rs
  | _, [] => rfl
  | k, r :: rs => by
    have := marksR_tot (k + r.length) rs
    simp only [totR, marksR, List.map_cons, List.sum_cons, intMark_length] at this ⊢
    omega

/-- Rows of which the first j are marked. -/
structure MarkRel (S : Nat → Prop) (w wr : World) (k0 : Nat) (us : List Value) (rs : List (List Int)) (K : Nat → Nat → Prop) (j : Nat) : Prop where
  done : ∀ (i : Nat) (u : Value), i < j → us[i]? = some u → ∀ h : i < rs.length, RowO wr (K i) u (ints (intMark (k0 + totR (rs.take i)) (rs[i]).length))
  left : ∀ (i : Nat) (u : Value), j ≤ i → us[i]? = some u → ∀ h : i < rs.length, RowO wr (K i) u (ints (rs[i]))

end Go.Proofs.Ytppliiingoonlaa
namespace Go.Proofs.Ytppliiingoonlaa
open Go.RowKit
/-- Block g is a box of two cells. -/
def Bx2 (w : World) (g : Nat) (x y : Value) : Prop := w.cell? ⟨g, 0, none⟩ = some x ∧ w.cell? ⟨g, 1, none⟩ = some y
theorem Bx2.below {w w' : World} {g B : Nat} {x y : Value} (h : Bx2 w g x y) (hb : Below B w w') (hg : g < B) : Bx2 w' g x y :=
  ⟨(hb.cell (p := ⟨g, 0, none⟩) hg).trans h.1, (hb.cell (p := ⟨g, 1, none⟩) hg).trans h.2⟩
theorem Bx2.kept {w w' : World} {g : Nat} {x y : Value} (h : Bx2 w g x y) (hb : Below w.heap.size w w') : Bx2 w' g x y := h.below hb (by
  by_cases hl : g < w.heap.size
  · exact hl
  · have e : w.heap[g]? = none := Array.getElem?_eq_none (by omega)
    have := h.1
    simp [World.cell?, e] at this)
theorem Bx2.lt {w : World} {g : Nat} {x y : Value} (h : Bx2 w g x y) : g < w.heap.size := by
  by_cases hl : g < w.heap.size
  · exact hl
  · have e : w.heap[g]? = none := Array.getElem?_eq_none (by omega)
    have := h.1
    simp [World.cell?, e] at this
theorem Bx2.chg {w w' : World} {S : Nat → Prop} {g : Nat} {x y : Value} (h : Bx2 w g x y) (hc : Chg S w w') (hn : ¬ S g) : Bx2 w' g x y :=
  ⟨(hc.cell (p := ⟨g, 0, none⟩) h.lt hn).trans h.1, (hc.cell (p := ⟨g, 1, none⟩) h.lt hn).trans h.2⟩
/-- A box that was laid before a call that turns nothing old. -/
theorem box2_kept {w w1 : World} {a b : Value} {t : TypeId} (hb : Below (w.heap.size + 1) (w.alloc (.cells #[a, b] t)) w1) :
    w1.heap[w.heap.size]? = some (.cells #[a, b] t (0, 0)) ∧ w1.cell? ⟨w.heap.size, 0, none⟩ = some a ∧ w1.cell? ⟨w.heap.size, 1, none⟩ = some b ∧ w1.frozen? ⟨w.heap.size, 0, none⟩ = false ∧ w1.frozen? ⟨w.heap.size, 1, none⟩ = false := by
  have h := (hb.block w.heap.size (Nat.lt_succ_self _)).trans (heap_alloc_new w _)
  exact ⟨h, (cell_of_row w1 _ 0 _ _ (0, 0) h).trans rfl, (cell_of_row w1 _ 1 _ _ (0, 0) h).trans rfl, frozen_of_row w1 _ 0 _ _ h, frozen_of_row w1 _ 1 _ _ h⟩
theorem box2_new (w0 w1 : World) (B : Nat) (x y : Value) (t : TypeId) (h : Below B w0 w1) (hB : B ≤ w0.heap.size) :
    Below B w0 (w1.alloc (.cells #[x, y] t)) ∧ Bx2 (w1.alloc (.cells #[x, y] t)) w1.heap.size x y ∧ Below w1.heap.size w1 (w1.alloc (.cells #[x, y] t)) ∧ (w1.alloc (.cells #[x, y] t)).heap.size = w1.heap.size + 1 := by
  have k := box2_kept (w := w1) (a := x) (b := y) (t := t) (Below.refl _ _)
  exact ⟨h.alloc (Nat.le_trans hB h.size) _, ⟨k.2.1, k.2.2.1⟩, (Below.refl _ _).alloc (Nat.le_refl _) _, by simp⟩
/-- The two cells are written. -/
theorem put2 {w1 : World} {g : Nat} {x0 x1 k l : Value} (b0 : w1.cell? ⟨g, 0, none⟩ = some x0) (b1 : w1.cell? ⟨g, 1, none⟩ = some x1) :
    let W4 := (w1.setCell ⟨g, 0, none⟩ k).setCell ⟨g, 1, none⟩ l
    (W4.cell? ⟨g, 0, none⟩ = some k ∧ W4.cell? ⟨g, 1, none⟩ = some l) ∧ W4.heap.size = w1.heap.size ∧ (∀ h, h ≠ g → W4.heap[h]? = w1.heap[h]?) ∧ ∀ B a, Below B a w1 → B ≤ g → Below B a W4 := by
  intro W4
  have ne : (⟨g, 0, none⟩ : Addr) ≠ ⟨g, 1, none⟩ := fun e => by injection e with _ e2; cases e2
  have d1 : (w1.setCell ⟨g, 0, none⟩ k).cell? ⟨g, 1, none⟩ = some x1 := (World.cell?_setCell_other _ _ _ _ ne).trans b1
  refine ⟨⟨(World.cell?_setCell_other _ _ _ _ ne.symm).trans (World.cell?_setCell_same _ _ _ b0), World.cell?_setCell_same _ _ _ d1⟩, by simp [W4, World.setCell], fun h hne => (Below.heap_setCell _ _ _ h hne).trans (Below.heap_setCell _ _ _ h hne), fun B a hb hg => (hb.setCell (p := ⟨g, 0, none⟩) hg k).setCell (p := ⟨g, 1, none⟩) hg l⟩
end Go.Proofs.Ytppliiingoonlaa
namespace Go.Proofs.Ytppliiingoonlaa
open Go.RowKit
/-- An automaton, as its fields tell it. -/
structure Dx where
  acc : List Bool
  nxt : List (List Int)
def zeroD : Dx := ⟨[], []⟩
def DfaV (w : World) (S : Nat → Prop) (va vn : Value) (d : Dx) : Prop := RowV w S va (bools d.acc) ∧ RowVV w S vn (intss d.nxt)
theorem DfaV.mono {w w' : World} {S S' : Nat → Prop} {va vn : Value} {d : Dx} (h : DfaV w S va vn d) (hs : ∀ g, S g → w'.heap[g]? = w.heap[g]?) (hS : ∀ g, S g → S' g) : DfaV w' S' va vn d := ⟨h.1.mono hs hS, h.2.mono hs hS⟩
theorem DfaV.kept {w w' : World} {S : Nat → Prop} {va vn : Value} {d : Dx} (h : DfaV w S va vn d) (hb : Below w.heap.size w w') : DfaV w' S va vn d := ⟨h.1.kept hb, h.2.kept hb⟩
theorem DfaV.shape {w : World} {S : Nat → Prop} {va vn : Value} {d : Dx} (h : DfaV w S va vn d) : (∃ A c, va = .slice A d.acc.length c) ∧ ∃ A c, vn = .slice A d.nxt.length c := by
  obtain ⟨A, c, e⟩ := h.1.shape
  obtain ⟨A', c', e'⟩ := h.2.shape.2
  rw [bools_length] at e
  rw [intss_length] at e'
  exact ⟨⟨A, c, e⟩, A', c', e'⟩
/-- .. of the call's own. -/
def DfaO (w : World) (S : Nat → Prop) (va vn : Value) (d : Dx) : Prop :=
  ∃ Sa Sn : Nat → Prop, RowO w Sa va (bools d.acc) ∧ RowOO w Sn vn (intss d.nxt) ∧ (∀ g, Sa g → S g ∧ ¬ Sn g) ∧ ∀ g, Sn g → S g
theorem DfaO.dfa {w : World} {S : Nat → Prop} {va vn : Value} {d : Dx} (h : DfaO w S va vn d) : DfaV w S va vn d := by
  obtain ⟨Sa, Sn, h1, h2, h3, h4⟩ := h
  exact ⟨h1.row.mono (fun _ _ => rfl) (fun g hg => (h3 g hg).1), h2.rows.mono (fun _ _ => rfl) h4⟩
theorem DfaO.mono {w w' : World} {S S' : Nat → Prop} {va vn : Value} {d : Dx} (h : DfaO w S va vn d) (hs : ∀ g, S g → w'.heap[g]? = w.heap[g]?) (hS : ∀ g, S g → S' g) (hz : w.heap.size ≤ w'.heap.size) : DfaO w' S' va vn d := by
  obtain ⟨Sa, Sn, h1, h2, h3, h4⟩ := h
  exact ⟨Sa, Sn, h1.mono (fun g hg => hs g (h3 g hg).1) (fun _ h => h), h2.mono (fun g hg => hs g (h4 g hg)) (fun _ h => h) hz, fun g hg => ⟨hS g (h3 g hg).1, (h3 g hg).2⟩, fun g hg => hS g (h4 g hg)⟩
theorem DfaO.zero (w : World) (S : Nat → Prop) : DfaO w S (.slice none 0 0) (.slice none 0 0) zeroD :=
  ⟨fun _ => False, fun _ => False, RowO.nil _ _ _ _, RowOO.nil _ _ _ _, fun _ h => h.elim, fun _ h => h.elim⟩
def wtD (d : Dx) : Nat := d.acc.length + (d.nxt.length + totR d.nxt)

/-- A copy of its own. -/
def CopyD (d : Dx) (w : World) (e : Ending) (w' : World) : Prop := ∃ va vn, e = .returned (.agg #[va, vn]) ∧ DfaO w' (OwnB w w') va vn d ∧ Below w.heap.size w w'
theorem CopyD.shape {d : Dx} {w w' : World} {e : Ending} (h : CopyD d w e w') : ∃ A c A' c', e = .returned (.agg #[.slice A d.acc.length c, .slice A' d.nxt.length c']) ∧ DfaO w' (OwnB w w') (.slice A d.acc.length c) (.slice A' d.nxt.length c') d ∧ Below w.heap.size w w' := by
  obtain ⟨va, vn, rfl, ho, hb⟩ := h
  obtain ⟨⟨A, c, rfl⟩, A', c', rfl⟩ := ho.dfa.shape
  exact ⟨A, c, A', c', rfl, ho, hb⟩
theorem three2 (w : World) (o1 : Obj) (x y : Value) (t : TypeId) : ((w.alloc o1).alloc (.cells #[x, y] t)).heap[w.heap.size + 1]? = some (.cells #[x, y] t (0, 0)) := by
  have h := heap_alloc_new (w.alloc o1) (.cells #[x, y] t)
  rw [World.size_alloc] at h
  exact h
/-- The result's cells are written: what is beneath lies as it lay. -/
theorem toD_end {w W3 w1 w2 : World} {d : Dx} {va vn x0 x1 : Value} (hz : W3.heap.size = w.heap.size + 1 + 1 + 1) (hb : Below w.heap.size w W3) (hb1 : Below W3.heap.size W3 w1) (ha : RowO w1 (OwnB W3 w1) va (bools d.acc))
    (hb2 : Below w1.heap.size (w1.setCell ⟨w.heap.size + 1 + 1, 0, none⟩ va) w2) (hn : RowOO w2 (OwnB w1 w2) vn (intss d.nxt))
    (b0 : w2.cell? ⟨w.heap.size + 1, 0, none⟩ = some x0) (b1 : w2.cell? ⟨w.heap.size + 1, 1, none⟩ = some x1) :
    let W4 := ((w2.setCell ⟨w.heap.size + 1 + 1, 1, none⟩ vn).setCell ⟨w.heap.size + 1, 0, none⟩ va).setCell ⟨w.heap.size + 1, 1, none⟩ vn
    (W4.cell? ⟨w.heap.size + 1, 0, none⟩ = some va ∧ W4.cell? ⟨w.heap.size + 1, 1, none⟩ = some vn) ∧ CopyD d w (.returned (.agg #[va, vn])) W4 := by
  intro W4
  have hne : (w.heap.size + 1 : Nat) ≠ w.heap.size + 1 + 1 := by omega
  have d0 := (World.cell?_of_block (a := ⟨w.heap.size + 1, 0, none⟩) (Below.heap_setCell w2 ⟨w.heap.size + 1 + 1, 1, none⟩ vn _ hne)).trans b0
  have d1 := (World.cell?_of_block (a := ⟨w.heap.size + 1, 1, none⟩) (Below.heap_setCell w2 ⟨w.heap.size + 1 + 1, 1, none⟩ vn _ hne)).trans b1
  obtain ⟨hcl, hsz, hot, -⟩ := put2 (k := va) (l := vn) d0 d1
  have hs2 : (w2.setCell ⟨w.heap.size + 1 + 1, 1, none⟩ vn).heap.size = w2.heap.size := by simp [World.setCell]
  have hs1 : (w1.setCell ⟨w.heap.size + 1 + 1, 0, none⟩ va).heap.size = w1.heap.size := by simp [World.setCell]
  have hs4 : W4.heap.size = w2.heap.size := hsz.trans hs2
  have hz1 := hb1.size
  have hz2 := hb2.size
  rw [hs1] at hz2
  have hold : ∀ g, g ≠ w.heap.size + 1 → g ≠ w.heap.size + 1 + 1 → W4.heap[g]? = w2.heap[g]? := fun g h1 h2 => (hot g h1).trans (Below.heap_setCell w2 ⟨w.heap.size + 1 + 1, 1, none⟩ vn g h2)
  have hold1 : ∀ g, g < w1.heap.size → g ≠ w.heap.size + 1 + 1 → w2.heap[g]? = w1.heap[g]? := fun g h1 h2 => (hb2.block g h1).trans (Below.heap_setCell w1 ⟨w.heap.size + 1 + 1, 0, none⟩ va g h2)
  refine ⟨hcl, va, vn, rfl, ⟨OwnB W3 w1, OwnB w1 w2, ha.mono (fun g hg => ?_) (fun _ h => h), hn.mono (fun g hg => ?_) (fun _ h => h) (by rw [hs4]; exact Nat.le_refl _), fun g hg => ?_, fun g hg => ?_⟩, ?_⟩
  · have h1 := hg.1
    have h2 := hg.2
    exact (hold g (by omega) (by omega)).trans (hold1 g h2 (by omega))
  · have h1 := hg.1
    exact hold g (by omega) (by omega)
  · have h1 := hg.1
    have h2 := hg.2
    exact ⟨⟨by omega, by rw [hs4]; omega⟩, fun h => by have := h.1; omega⟩
  · have h1 := hg.1
    have h2 := hg.2
    exact ⟨by omega, by rw [hs4]; omega⟩
  · have q := (hb.trans (hb1.mono (by omega))).setCell (p := ⟨w.heap.size + 1 + 1, 0, none⟩) (by simp; omega) va
    have q2 := q.trans (hb2.mono (by omega))
    exact ((q2.setCell (p := ⟨w.heap.size + 1 + 1, 1, none⟩) (by simp; omega) vn).setCell (p := ⟨w.heap.size + 1, 0, none⟩) (by simp) va).setCell (p := ⟨w.heap.size + 1, 1, none⟩) (by simp) vn

/-- The marks of an automaton. -/
def markD (k : Nat) (d : Dx) : Dx := ⟨boolMark k d.acc.length, marksR (k + d.acc.length) d.nxt⟩
def lenD (d : Dx) : Nat := d.acc.length + totR d.nxt
theorem lenD_le (d : Dx) : lenD d ≤ wtD d := by unfold lenD wtD; omega

end Go.Proofs.Ytppliiingoonlaa
namespace Go.Proofs.Ytppliiingoonlaa
open Go.RowKit
theorem DfaO.kept {w w' : World} {S : Nat → Prop} {va vn : Value} {d : Dx} (h : DfaO w S va vn d) (hS : ∀ g, S g → g < w.heap.size) (hb : Below w.heap.size w w') : DfaO w' S va vn d :=
  h.mono (fun g hg => hb.block g (hS g hg)) (fun _ h => h) hb.size
theorem DfaO.chg {w w' : World} {S S' : Nat → Prop} {va vn : Value} {d : Dx} (h : DfaO w S va vn d) (hS : ∀ g, S g → g < w.heap.size) (hc : Chg S' w w') (hn : ∀ g, S g → ¬ S' g) : DfaO w' S va vn d :=
  h.mono (fun g hg => hc.block g (hS g hg) (hn g hg)) (fun _ h => h) hc.size
/-- A copy and a truth value. -/
def CopyDB (d : Dx) (b : Bool) (w : World) (e : Ending) (w' : World) : Prop := ∃ va vn, e = .returned (.tuple #[.agg #[va, vn], .bool b]) ∧ DfaO w' (OwnB w w') va vn d ∧ Below w.heap.size w w'
theorem CopyDB.shape {d : Dx} {b : Bool} {w w' : World} {e : Ending} (h : CopyDB d b w e w') : ∃ A c A' c', e = .returned (.tuple #[.agg #[.slice A d.acc.length c, .slice A' d.nxt.length c'], .bool b]) ∧ DfaO w' (OwnB w w') (.slice A d.acc.length c) (.slice A' d.nxt.length c') d ∧ Below w.heap.size w w' := by
  obtain ⟨va, vn, rfl, ho, hb⟩ := h
  obtain ⟨⟨A, c, rfl⟩, A', c', rfl⟩ := ho.dfa.shape
  exact ⟨A, c, A', c', rfl, ho, hb⟩

/-! A box that is laid while three calls go on, and filled at their end. -/
theorem box2_facts {V : World} {b : Nat} {x y : Value} {T : TypeId} (h : V.heap[b]? = some (.cells #[x, y] T (0, 0))) :
    V.cell? ⟨b, 0, none⟩ = some x ∧ V.cell? ⟨b, 1, none⟩ = some y ∧ V.frozen? ⟨b, 0, none⟩ = false ∧ V.frozen? ⟨b, 1, none⟩ = false :=
  ⟨(cell_of_row V _ 0 _ _ (0, 0) h).trans rfl, (cell_of_row V _ 1 _ _ (0, 0) h).trans rfl, frozen_of_row V _ 0 _ _ h, frozen_of_row V _ 1 _ _ h⟩
theorem blk_lt {V : World} {b : Nat} {o : Obj} (h : V.heap[b]? = some o) : b < V.heap.size := (Array.getElem?_eq_some_iff.1 h).1
def OwnX (w w' : World) (b g : Nat) : Prop := w.heap.size ≤ g ∧ g < w'.heap.size ∧ g ≠ b
def MidX (cur wc : World) (b : Nat) (x y : Value) (d : Dx) : Prop := Bx2 wc b x y ∧ DfaO wc (OwnX cur wc b) x y d ∧ cur.heap.size ≤ b ∧ b < wc.heap.size ∧ Below cur.heap.size cur wc
theorem midX_new {cur wx wb : World} {x y : Value} {d : Dx} {T : TypeId} (hcx : cur.heap.size ≤ wx.heap.size) (ho : DfaO wb (OwnB wx wb) x y d) (hb : Below cur.heap.size cur wb) : MidX cur (wb.alloc (.cells #[x, y] T)) wb.heap.size x y d := by
  have k := box2_kept (w := wb) (a := x) (b := y) (t := T) (Below.refl _ _)
  refine ⟨⟨k.2.1, k.2.2.1⟩, ho.mono (fun g hg => Below.heap_alloc _ _ g hg.2) (fun g hg => ⟨Nat.le_trans hcx hg.1, by have := hg.2; simp; omega, by have := hg.2; omega⟩) (by simp), hb.size, by simp, hb.alloc hb.size _⟩
theorem midX_set {cur wx wb : World} {b : Nat} {x y x0 y0 : Value} {d : Dx} {T : TypeId} (hcx : cur.heap.size ≤ wx.heap.size) (ho : DfaO wb (OwnB wx wb) x y d) (hb : Below cur.heap.size cur wb) (kb : wb.heap[b]? = some (.cells #[x0, y0] T (0, 0))) (hbx : b < wx.heap.size) (hcb : cur.heap.size ≤ b) :
    MidX cur ((wb.setCell ⟨b, 0, none⟩ x).setCell ⟨b, 1, none⟩ y) b x y d := by
  obtain ⟨c0, c1, -, -⟩ := box2_facts kb
  obtain ⟨hcl, hsz, hot, hB⟩ := put2 (k := x) (l := y) c0 c1
  have hlt := blk_lt kb
  refine ⟨hcl, ho.mono (fun g hg => hot g (by have := hg.1; omega)) (fun g hg => ⟨Nat.le_trans hcx hg.1, by rw [hsz]; exact hg.2, by have := hg.1; omega⟩) (by rw [hsz]; exact Nat.le_refl _), hcb, by rw [hsz]; exact hlt, hB _ _ hb hcb⟩
end Go.Proofs.Ytppliiingoonlaa

/-
  What laws.szRegex and laws.szRegexS answer: what is left of a number behind the nodes and the letters of an expression, or -1.
  What laws.eqRegex and laws.eqRegexS answer of the same expression in two places: true.
-/
namespace Go.Proofs.Ytppliiingoonlaa
open Go.RowKit
/-- Nodes and letters. -/
def wt : Fr → Nat
  | .nil => 0
  | .cons _ l a r => wt a + wt r + 1 + l.size
def wtL (L : List (Int × ByteArray × Fr)) : Nat := (L.map fun x => x.2.1.size + wt x.2.2).sum
theorem wt_items : ∀ f : Fr, wt f = f.items.length + wtL f.items
  | .nil => rfl
  | .cons _ l a r => by
    have := wt_items r
    simp only [wt, Fr.items, wtL, List.map_cons, List.sum_cons, List.length_cons] at this ⊢
    omega
theorem wtL_step {f : Fr} {j : Nat} {k : Int} {l : ByteArray} {a : Fr} (h : f.items[j]? = some (k, l, a)) : wtL (f.items.take (j + 1)) = wtL (f.items.take j) + (l.size + wt a) := by
  have hlt := (List.getElem?_eq_some_iff.1 h).1
  rw [List.take_succ_eq_append_getElem hlt, (List.getElem?_eq_some_iff.1 h).2]
  simp [wtL]
theorem wtL_take : ∀ (L : List (Int × ByteArray × Fr)) (j : Nat), wtL (L.take j) ≤ wtL L
  | _, 0 => by simp [wtL]
  | [], _ + 1 => Nat.le_refl _
  | x :: r, j + 1 => by
    have := wtL_take r j
    simp only [wtL, List.take_succ_cons, List.map_cons, List.sum_cons] at this ⊢
    omega
theorem size_wt : ∀ f : Fr, f.size ≤ wt f
  | .nil => Nat.le_refl _
  | .cons _ l a r => by
    have := size_wt a
    have := size_wt r
    simp only [Fr.size, wt]
    omega


set_option maxHeartbeats 800000 in
theorem szNode_of {n : Nat} (ih : ∀ (B : Nat) (u : Value) (f : Fr) (z : Int) (w : World), Sl w B n u f → B ≤ w.heap.size → 0 ≤ z → z ≤ 1048576 → Calls Try.prog 29 #[u, .int .i64 z] w (SzPost (wt f) z w))
    (B : Nat) (k : Int) (l : ByteArray) (u : Value) (a : Fr) (z : Int) (w : World) (hS : Sl w B n u a) (hB : B ≤ w.heap.size) (hl : l.size ≤ 9223372036854775807) (hz0 : 0 ≤ z) (hz1 : z ≤ 1048576) :
    Calls Try.prog 15 #[.agg #[.int .i64 k, .string l, u], .int .i64 z] w (SzPost (l.size + wt a) z w) := by
  have HB0 := Lib.hid ((Below.refl w.heap.size w).alloc (Nat.le_refl _) (.cells #[.int .i64 k, .string l, u] 24))
  by_cases h1 : (l.size : Int) ≤ z
  · have HI := Lib.hid (fun wr (hb : Below w.heap.size w wr) (hz : B ≤ wr.heap.size) => ih B u a (z - l.size) wr (hS.mono (hb.mono hB) (Nat.le_refl _)) hz (by omega) (by omega))
    clear hS
    by_cases h2 : (wt a : Int) ≤ z - l.size
    · have HR : Hid (leftOf (l.size + wt a) z = z - l.size - wt a) := Lib.hid (by rw [leftOf_yes (by omega)]; omega)
      go_enter Try.func15, Try.ntmps15
      go_wp2_with fail
      refine (HI.out _ HB0.out (by simp; omega)).mono ?_
      rintro e w1 ⟨he, hb1⟩
      rw [leftOf_yes h2] at he
      subst he
      have HW1 := Lib.hid (HB0.out.trans (hb1.mono (by simp)))
      clear hb1
      go_wp2_with fail
      go_ret
      exact ⟨congrArg (fun z : Int => Ending.returned (.int .i64 z)) HR.out.symm, HW1.out⟩
    · have HR : Hid (leftOf (l.size + wt a) z = -1) := Lib.hid (by rw [leftOf_no (by omega)])
      go_enter Try.func15, Try.ntmps15
      go_wp2_with fail
      refine (HI.out _ HB0.out (by simp; omega)).mono ?_
      rintro e w1 ⟨he, hb1⟩
      rw [leftOf_no (by omega)] at he
      subst he
      have HW1 := Lib.hid (HB0.out.trans (hb1.mono (by simp)))
      clear hb1
      go_wp2_with fail
      go_ret
      exact ⟨congrArg (fun z : Int => Ending.returned (.int .i64 z)) HR.out.symm, HW1.out⟩
  · have HR : Hid (leftOf (l.size + wt a) z = -1) := Lib.hid (by rw [leftOf_no (by omega)])
    clear hS
    go_enter Try.func15, Try.ntmps15
    go_wp2_with fail
    go_ret
    exact ⟨congrArg (fun z : Int => Ending.returned (.int .i64 z)) HR.out.symm, HB0.out⟩

set_option maxHeartbeats 1600000 in
theorem szS_any (n : Nat) : ∀ (B : Nat) (v : Value) (f : Fr) (z : Int) (w : World), Sl w B n v f → B ≤ w.heap.size → 0 ≤ z → z ≤ 1048576 → Calls Try.prog 29 #[v, .int .i64 z] w (SzPost (wt f) z w) := by
  induction n with
  | zero => intro B v f z w h; exact h.zero.elim
  | succ n ih =>
    intro B v f z w hS hB hz0 hz1
    obtain ⟨hl, A, c, rfl, hE⟩ := hS.open
    have HE := Lib.hid hE
    clear hE hS
    have HWT := Lib.hid (wt_items f)
    by_cases hlen : (f.items.length : Int) ≤ z
    · have hneg : ¬ z - (f.items.length : Int) < 0 := by omega
      go_enter Try.func29, Try.ntmps29
      go_wp2_with fail
      go_loopw [1, 5] (fun y i wr => ∃ j : Nat, i = .int .i64 j ∧ y = .int .i64 (z - f.items.length - wtL (f.items.take j)) ∧ (f.items.length : Int) + wtL (f.items.take j) ≤ z ∧ j ≤ f.items.length ∧ Below w.heap.size w wr) (fun _ i _ => f.items.length - (intOf i).toNat)
      case atStart => exact ⟨0, rfl, by simp [wtL], by simp [wtL]; omega, Nat.zero_le _, Below.refl _ _⟩
      case round =>
        obtain ⟨j, rfl, rfl, hle, hj, hb⟩ := hrel
        have hwz := hb.size
        have HB := Lib.hid hb
        clear hb
        by_cases hlt : j < f.items.length
        · obtain ⟨g, o, rfl, hg, k, l, a, u, hx, hls, he, h4⟩ := HE.out j hlt
          obtain ⟨hc0, hc1, hc2⟩ := he.below HB.out (Nat.lt_of_lt_of_le hg hB)
          have HS := Lib.hid (wtL_step hx)
          have hsub := h4.mono (HB.out.mono hB) (Nat.le_refl _)
          obtain ⟨m, hm⟩ : ∃ m, m = l.size + wt a := ⟨_, rfl⟩
          obtain ⟨y, hy⟩ : ∃ y : Int, y = z - f.items.length - wtL (f.items.take j) := ⟨_, rfl⟩
          have hy0 : 0 ≤ y := by omega
          have hy1 : y ≤ 1048576 := by omega
          have HI := szNode_of ih B k l u a y wr hsub (by omega) hls hy0 hy1
          rw [← hm] at HI HS
          rw [← hy]
          have HY := Lib.hid hy
          have HI := Lib.hid HI
          have HM := Lib.hid hm
          have hwt1 := wtL_take f.items (j + 1)
          clear hm hy he h4 hsub
          by_cases hfit : (m : Int) ≤ y
          · go_wp2_with fail
            refine HI.out.mono ?_
            rintro e w1 ⟨he, hb1⟩
            rw [leftOf_yes hfit] at he
            subst he
            have HB1 := Lib.hid (HB.out.trans (hb1.mono hwz))
            have hpos : 0 ≤ y - (m : Int) := by omega
            clear hb1
            go_wp2_with fail
            go_roundw
            case rel => exact ⟨j + 1, by go_num, congrArg (Value.int .i64) (by rw [HS.out, HY.out]; omega), by have := HY.out; rw [HS.out]; omega, by omega, HB1.out⟩
            case measure => simp [intOf]; omega
          · have HR : Hid (leftOf (wt f) z = -1) := Lib.hid (by rw [leftOf_no (by have := HY.out; have := HS.out; rw [HWT.out]; omega)])
            go_wp2_with fail
            refine HI.out.mono ?_
            rintro e w1 ⟨he, hb1⟩
            rw [leftOf_no (by omega)] at he
            subst he
            have HB1 := Lib.hid (HB.out.trans (hb1.mono hwz))
            clear hb1
            go_wp2_with fail
            go_ret
            exact ⟨congrArg (fun z : Int => Ending.returned (.int .i64 z)) HR.out.symm, HB1.out⟩
        · obtain rfl : j = f.items.length := by omega
          have HT : Hid (f.items.take f.items.length = f.items) := Lib.hid (List.take_length)
          have hle' := hle
          rw [HT.out] at hle'
          have HR : Hid (leftOf (wt f) z = z - f.items.length - wtL (f.items.take f.items.length)) := Lib.hid (by rw [leftOf_yes (by rw [HWT.out]; omega), HT.out, HWT.out]; omega)
          obtain ⟨y, hy⟩ : ∃ y : Int, y = z - f.items.length - wtL (f.items.take f.items.length) := ⟨_, rfl⟩
          rw [← hy] at HR ⊢
          clear hy hle hle' HT
          go_wp2_with fail
          go_ret
          exact ⟨congrArg (fun z : Int => Ending.returned (.int .i64 z)) HR.out.symm, HB.out⟩
    · have HR : Hid (leftOf (wt f) z = -1) := Lib.hid (by rw [leftOf_no (by rw [HWT.out]; omega)])
      have hneg : z - (f.items.length : Int) < 0 := by omega
      go_enter Try.func29, Try.ntmps29
      go_wp2_with fail
      go_ret
      exact ⟨congrArg (fun z : Int => Ending.returned (.int .i64 z)) HR.out.symm, Below.refl _ _⟩
end Go.Proofs.Ytppliiingoonlaa
namespace Go.Proofs.Ytppliiingoonlaa
open Go.RowKit
set_option maxRecDepth 100000 in
set_option maxHeartbeats 800000 in
theorem eqNode_of {n m : Nat} (ih : ∀ (B : Nat) (u u' : Value) (f : Fr) (w : World), Sl w B n u f → Sl w B m u' f → B ≤ w.heap.size → Calls Try.prog 32 #[u, u'] w fun e w' => e = .returned (.bool true) ∧ Below w.heap.size w w')
    (B : Nat) (k : Int) (l : ByteArray) (u u' : Value) (a : Fr) (w : World) (hS : Sl w B n u a) (hS' : Sl w B m u' a) (hB : B ≤ w.heap.size) :
    Calls Try.prog 23 #[.agg #[.int .i64 k, .string l, u], .agg #[.int .i64 k, .string l, u']] w fun e w' => e = .returned (.bool true) ∧ Below w.heap.size w w' := by
  have HB0 := Lib.hid (((Below.refl w.heap.size w).alloc (Nat.le_refl _) (.cells #[.int .i64 k, .string l, u] 32)).alloc (by simp) (.cells #[.int .i64 k, .string l, u'] 32))
  have HI := Lib.hid (fun wr (hb : Below w.heap.size w wr) => ih B u u' a wr (hS.mono (hb.mono hB) (Nat.le_refl _)) (hS'.mono (hb.mono hB) (Nat.le_refl _)) (Nat.le_trans hB hb.size))
  clear hS hS'
  go_enter Try.func23, Try.ntmps23
  go_wp2_with fail
  refine (HI.out _ HB0.out).mono ?_
  rintro e w1 ⟨rfl, hb1⟩
  have HW1 := Lib.hid (HB0.out.trans (hb1.mono HB0.out.size))
  clear hb1
  go_wp2_with fail
  go_ret
  exact ⟨rfl, HW1.out⟩

set_option maxRecDepth 100000 in
set_option maxHeartbeats 1600000 in
theorem eqS_any (n : Nat) : ∀ (m B : Nat) (v v' : Value) (f : Fr) (w : World), Sl w B n v f → Sl w B m v' f → B ≤ w.heap.size → Calls Try.prog 32 #[v, v'] w fun e w' => e = .returned (.bool true) ∧ Below w.heap.size w w' := by
  induction n with
  | zero => intro m B v v' f w h; exact h.zero.elim
  | succ n ih =>
    intro m B v v' f w hS hS' hB
    cases m with
    | zero => exact hS'.zero.elim
    | succ m =>
      obtain ⟨hl, A, c, rfl, hE⟩ := hS.open
      obtain ⟨_, A', c', rfl, hE'⟩ := hS'.open
      have HE := Lib.hid hE
      have HE' := Lib.hid hE'
      clear hE hE' hS hS'
      go_enter Try.func32, Try.ntmps32
      go_wp2_with fail
      go_loopw [5] (fun i wr => ∃ j : Nat, i = .int .i64 j ∧ j ≤ f.items.length ∧ Below w.heap.size w wr) (fun i _ => f.items.length - (intOf i).toNat)
      case atStart => exact ⟨0, rfl, Nat.zero_le _, Below.refl _ _⟩
      case round =>
        obtain ⟨j, rfl, hj, hb⟩ := hrel
        have HB := Lib.hid hb
        have hwz := hb.size
        clear hb
        by_cases hlt : j < f.items.length
        · obtain ⟨g, o, rfl, hg, k, l, a, u, hx, hls, he, h4⟩ := HE.out j hlt
          obtain ⟨g', o', rfl, hg', k2, l2, a2, u', hx', _, he', h4'⟩ := HE'.out j hlt
          rw [hx] at hx'
          cases hx'
          obtain ⟨hc0, hc1, hc2⟩ := he.below HB.out (Nat.lt_of_lt_of_le hg hB)
          obtain ⟨hd0, hd1, hd2⟩ := he'.below HB.out (Nat.lt_of_lt_of_le hg' hB)
          have HI := Lib.hid (eqNode_of (fun B u u' f w => ih m B u u' f w) B k l u u' a wr.drew (h4.mono ((HB.out.drew).mono hB) (Nat.le_refl _)) (h4'.mono ((HB.out.drew).mono hB) (Nat.le_refl _)) (by show B ≤ wr.heap.size; omega))
          have HBd := Lib.hid HB.out.drew
          clear he he' h4 h4' hx
          go_wp2_with fail
          go_still_tail 8, (by kernel_rfl)
          go_wp2_with fail
          refine HI.out.mono ?_
          rintro e w1 ⟨rfl, hb1⟩
          have HB1 := Lib.hid (HBd.out.trans (hb1.mono hwz))
          clear hb1
          go_wp2_with fail
          go_roundw
          case rel => exact ⟨j + 1, by go_num, by omega, HB1.out⟩
          case measure => simp [intOf]; omega
        · have hd : decide ((j : Int) < (f.items.length : Int)) = false := by simp; omega
          go_wp2_with fail
          go_ret
          exact ⟨rfl, HB.out⟩
end Go.Proofs.Ytppliiingoonlaa

/-
  What laws.toRegex and laws.toRegexS answer: the same expression, in new memory.
-/
namespace Go.Proofs.Ytppliiingoonlaa
open Go.RowKit
theorem rxInfo : (Try.prog.info? 32).map (fun i => (i.zero, i.size, i.bytes)) = some (some (.agg #[.int .i64 0, .string ⟨#[]⟩, .slice none 0 0]), 3, 48) := by kernel_rfl

/-- A slice that holds the row f, in blocks of the call's own. -/
def ToPostT (n : Nat) (f : Fr) (w : World) (e : Ending) (w' : World) : Prop :=
  ∃ v, e = .returned v ∧ SlT w' n (fun g => w.heap.size ≤ g ∧ g < w'.heap.size) v f ∧ Below w.heap.size w w'
/-- A node whose parts lie in blocks of the call's own. -/
def ToNodeT (n : Nat) (k : Int) (l : ByteArray) (a : Fr) (w : World) (e : Ending) (w' : World) : Prop :=
  ∃ u, e = .returned (.agg #[.int .i64 k, .string l, u]) ∧ SlT w' n (fun g => w.heap.size ≤ g ∧ g < w'.heap.size) u a ∧ Below w.heap.size w w'
def ToPost (n : Nat) (f : Fr) (w : World) (e : Ending) (w' : World) : Prop :=
  ∃ v, e = .returned v ∧ SlP w' (fun g => w.heap.size ≤ g ∧ g < w'.heap.size) n v f ∧ Below w.heap.size w w'
def ToNode (n : Nat) (k : Int) (l : ByteArray) (a : Fr) (w : World) (e : Ending) (w' : World) : Prop :=
  ∃ u, e = .returned (.agg #[.int .i64 k, .string l, u]) ∧ SlP w' (fun g => w.heap.size ≤ g ∧ g < w'.heap.size) n u a ∧ Below w.heap.size w w'

/-- A world with three blocks more. -/
def three (w : World) (o1 o2 o3 : Obj) : World := ((w.alloc o1).alloc o2).alloc o3
theorem three_size (w : World) (o1 o2 o3 : Obj) : (three w o1 o2 o3).heap.size = w.heap.size + 1 + 1 + 1 := by simp [three]
theorem three_two (w : World) (o1 o2 o3 : Obj) : (three w o1 o2 o3).heap[w.heap.size + 1]? = some o2 := by
  have h := heap_alloc_new (w.alloc o1) o2
  rw [World.size_alloc] at h
  exact (Below.heap_alloc _ o3 _ (by simp)).trans h
theorem three_three (w : World) (o1 o2 o3 : Obj) : (three w o1 o2 o3).heap[w.heap.size + 1 + 1]? = some o3 := by
  have h := heap_alloc_new ((w.alloc o1).alloc o2) o3
  rw [World.size_alloc, World.size_alloc] at h
  exact h

/-- The result's cells are written: what is beneath lies as it lay. -/
theorem node_end {w W3 w1 : World} {n : Nat} {k : Int} {l : ByteArray} {u : Value} {a : Fr} {x0 x1 x2 : Value} (hs : SlT w1 n (fun g => W3.heap.size ≤ g ∧ g < w1.heap.size) u a) (hb1 : Below W3.heap.size W3 w1) (hb : Below w.heap.size w W3) (hz : W3.heap.size = w.heap.size + 1 + 1 + 1)
    (b0 : w1.cell? ⟨w.heap.size + 1, 0, none⟩ = some x0) (b1 : w1.cell? ⟨w.heap.size + 1, 1, none⟩ = some x1) (b2 : w1.cell? ⟨w.heap.size + 1, 2, none⟩ = some x2) :
    let W4 := (((w1.setCell ⟨w.heap.size + 1 + 1, 2, none⟩ u).setCell ⟨w.heap.size + 1, 0, none⟩ (.int .i64 k)).setCell ⟨w.heap.size + 1, 1, none⟩ (.string l)).setCell ⟨w.heap.size + 1, 2, none⟩ u
    W4.cell? ⟨w.heap.size + 1, 0, none⟩ = some (.int .i64 k) ∧ W4.cell? ⟨w.heap.size + 1, 1, none⟩ = some (.string l) ∧ W4.cell? ⟨w.heap.size + 1, 2, none⟩ = some u ∧
      SlT W4 n (fun g => w.heap.size ≤ g ∧ g < W4.heap.size) u a ∧ Below w.heap.size w W4 := by
  intro W4
  have ne : ∀ {g o g' o' : Nat}, g ≠ g' ∨ o ≠ o' → (⟨g, o, none⟩ : Addr) ≠ ⟨g', o', none⟩ := fun h e => by
    injection e with e1 e2
    rcases h with h | h
    · exact h e1
    · exact h e2
  have d0 : (w1.setCell ⟨w.heap.size + 1 + 1, 2, none⟩ u).cell? ⟨w.heap.size + 1, 0, none⟩ = some x0 := (World.cell?_setCell_other _ _ _ _ (ne (.inl (by omega)))).trans b0
  have d1 : ((w1.setCell ⟨w.heap.size + 1 + 1, 2, none⟩ u).setCell ⟨w.heap.size + 1, 0, none⟩ (.int .i64 k)).cell? ⟨w.heap.size + 1, 1, none⟩ = some x1 :=
    (World.cell?_setCell_other _ _ _ _ (ne (.inr (by omega)))).trans ((World.cell?_setCell_other _ _ _ _ (ne (.inl (by omega)))).trans b1)
  have d2 : (((w1.setCell ⟨w.heap.size + 1 + 1, 2, none⟩ u).setCell ⟨w.heap.size + 1, 0, none⟩ (.int .i64 k)).setCell ⟨w.heap.size + 1, 1, none⟩ (.string l)).cell? ⟨w.heap.size + 1, 2, none⟩ = some x2 :=
    (World.cell?_setCell_other _ _ _ _ (ne (.inr (by omega)))).trans ((World.cell?_setCell_other _ _ _ _ (ne (.inr (by omega)))).trans ((World.cell?_setCell_other _ _ _ _ (ne (.inl (by omega)))).trans b2))
  have hsz : W4.heap.size = w1.heap.size := by simp [W4, World.setCell]
  refine ⟨?_, ?_, World.cell?_setCell_same _ _ _ d2, ?_, ?_⟩
  · exact (World.cell?_setCell_other _ _ _ _ (ne (.inr (by omega)))).trans ((World.cell?_setCell_other _ _ _ _ (ne (.inr (by omega)))).trans (World.cell?_setCell_same _ _ _ d0))
  · exact (World.cell?_setCell_other _ _ _ _ (ne (.inr (by omega)))).trans (World.cell?_setCell_same _ _ _ d1)
  · refine hs.mono (fun g hg => ?_) (fun g hg => ⟨by omega, by rw [hsz]; exact hg.2⟩)
    have h1 := hg.1
    rw [hz] at h1
    exact ((Below.heap_setCell _ _ _ g (by simp; omega)).trans ((Below.heap_setCell _ _ _ g (by simp; omega)).trans ((Below.heap_setCell _ _ _ g (by simp; omega)).trans (Below.heap_setCell _ _ _ g (by simp; omega)))))
  · have hb' := hb.trans (hb1.mono (by rw [hz]; omega))
    exact (((hb'.setCell (p := ⟨w.heap.size + 1 + 1, 2, none⟩) (by simp; omega) _).setCell (p := ⟨w.heap.size + 1, 0, none⟩) (by simp) _).setCell (p := ⟨w.heap.size + 1, 1, none⟩) (by simp) _).setCell (p := ⟨w.heap.size + 1, 2, none⟩) (by simp) _

set_option maxHeartbeats 800000 in
theorem toNodeT_of {n : Nat} (ih : ∀ (B : Nat) (u : Value) (f : Fr) (w : World), Sl w B n u f → B ≤ w.heap.size → f.size ≤ 2097152 → Calls Try.prog 30 #[u] w (ToPostT n f w))
    (B : Nat) (k : Int) (l : ByteArray) (u : Value) (a : Fr) (w : World) (hS : Sl w B n u a) (hB : B ≤ w.heap.size) (hsz : a.size ≤ 2097152) :
    Calls Try.prog 19 #[.agg #[.int .i64 k, .string l, u]] w (ToNodeT n k l a w) := by
  have HB3 := Lib.hid ((((Below.refl w.heap.size w).alloc (Nat.le_refl _) (.cells #[.int .i64 k, .string l, u] 24)).alloc (by simp) (.cells #[.int .i64 0, .string ⟨#[]⟩, .slice none 0 0] 32)).alloc (by simp; omega) (.cells #[.int .i64 k, .string l, .slice none 0 0] 32))
  have HI := Lib.hid (fun wr (hb : Below w.heap.size w wr) => ih B u a wr (hS.mono (hb.mono hB) (Nat.le_refl _)) (Nat.le_trans hB hb.size) hsz)
  clear hS
  go_enter Try.func19, Try.ntmps19
  go_wp2_with fail
  refine (HI.out _ HB3.out).mono ?_
  rintro e w1 ⟨v, rfl, hsl, hb1⟩
  obtain ⟨A, c, rfl⟩ := hsl.shape
  have hz := three_size w (.cells #[.int .i64 k, .string l, u] 24) (.cells #[.int .i64 0, .string ⟨#[]⟩, .slice none 0 0] 32) (.cells #[.int .i64 k, .string l, .slice none 0 0] 32)
  have h2 := three_two w (.cells #[.int .i64 k, .string l, u] 24) (.cells #[.int .i64 0, .string ⟨#[]⟩, .slice none 0 0] 32) (.cells #[.int .i64 k, .string l, .slice none 0 0] 32)
  have h3 := three_three w (.cells #[.int .i64 k, .string l, u] 24) (.cells #[.int .i64 0, .string ⟨#[]⟩, .slice none 0 0] 32) (.cells #[.int .i64 k, .string l, .slice none 0 0] 32)
  unfold three at hz h2 h3
  have hz1 := hb1.size
  rw [hz] at hz1
  have g2 := (hb1.block _ (by rw [hz]; omega)).trans h2
  have g3 := (hb1.block _ (by rw [hz]; omega)).trans h3
  have a0 := (cell_of_row w1 _ 0 _ _ (0, 0) g3).trans (rfl : _ = some (Value.int .i64 k))
  have a1 := (cell_of_row w1 _ 1 _ _ (0, 0) g3).trans (rfl : _ = some (Value.string l))
  have a2 := (cell_of_row w1 _ 2 _ _ (0, 0) g3).trans (rfl : _ = some (Value.slice none 0 0))
  have b0 := (cell_of_row w1 _ 0 _ _ (0, 0) g2).trans (rfl : _ = some (Value.int .i64 0))
  have b1 := (cell_of_row w1 _ 1 _ _ (0, 0) g2).trans (rfl : _ = some (Value.string ⟨#[]⟩))
  have b2 := (cell_of_row w1 _ 2 _ _ (0, 0) g2).trans (rfl : _ = some (Value.slice none 0 0))
  have fa := frozen_of_row w1 _ 2 _ _ g3
  have f0 := frozen_of_row w1 _ 0 _ _ g2
  have f1 := frozen_of_row w1 _ 1 _ _ g2
  have f2 := frozen_of_row w1 _ 2 _ _ g2
  clear g2 g3 h2 h3
  have HSL := Lib.hid hsl
  have HB1 := Lib.hid hb1
  have HZ := Lib.hid hz
  clear hsl hb1 hz
  go_wp2_with fail
  have R := node_end (w := w) (k := k) (l := l) HSL.out HB1.out HB3.out HZ.out b0 b1 b2
  obtain ⟨c0, c1, c2, hR⟩ := R
  refine bodyPost_ret (v := .agg #[.int .i64 k, .string l, .slice A a.items.length c]) (by simp [results, Try.results19, go_sem, c0, c1, c2]) rfl ⟨_, rfl, hR.1, hR.2⟩

/-- Block g holds a row of expressions; the first j are filled in, what is beneath them lies in later blocks, part by part. -/
def Filled (wr : World) (g n : Nat) (f : Fr) (j m : Nat) : Prop :=
  (∃ cur : Array Value, wr.heap[g]? = some (.cells cur 32 (0, 0)) ∧ cur.size = f.items.length * 3) ∧
    ∃ s : Nat → Nat, g < s 0 ∧ (∀ i, s i ≤ s (i + 1)) ∧ s j ≤ m ∧ m ≤ wr.heap.size ∧ ∀ i k l a, i < j → f.items[i]? = some (k, l, a) → ∃ u, ElAt wr g (i * 3) k l u ∧ SlT wr n (fun h => s i ≤ h ∧ h < s (i + 1)) u a
def cutAt (s : Nat → Nat) (j z i : Nat) : Nat := if i ≤ j then s i else z
theorem cutAt_le {s : Nat → Nat} {j z i : Nat} (h : i ≤ j) : cutAt s j z i = s i := if_pos h
theorem cutAt_gt {s : Nat → Nat} {j z i : Nat} (h : j < i) : cutAt s j z i = z := if_neg (by omega)
theorem rising {s : Nat → Nat} (h : ∀ i, s i ≤ s (i + 1)) {i j : Nat} (hij : i ≤ j) : s i ≤ s j := by
  induction j with
  | zero => rw [Nat.le_zero.1 hij]; exact Nat.le_refl _
  | succ j ih =>
    by_cases e : i = j + 1
    · rw [e]; exact Nat.le_refl _
    · exact Nat.le_trans (ih (by omega)) (h j)
theorem Filled.cells {wr : World} {g n : Nat} {f : Fr} {j m : Nat} (h : Filled wr g n f j m) (hj : j < f.items.length) :
    (∃ x, wr.cell? ⟨g, j * 3, none⟩ = some x) ∧ (∃ x, wr.cell? ⟨g, j * 3 + 1, none⟩ = some x) ∧ (∃ x, wr.cell? ⟨g, j * 3 + 2, none⟩ = some x) ∧ ∀ o, wr.frozen? ⟨g, o, none⟩ = false := by
  obtain ⟨⟨cur, hh, hs⟩, _⟩ := h
  have at_ : ∀ o, o < cur.size → ∃ x, wr.cell? ⟨g, o, none⟩ = some x := fun o ho => ⟨_, (cell_of_row wr g o _ _ (0, 0) hh).trans (Array.getElem?_eq_getElem ho)⟩
  exact ⟨at_ _ (by omega), at_ _ (by omega), at_ _ (by omega), fun o => frozen_of_row wr g o _ _ hh⟩
theorem Filled.lt {wr : World} {g n : Nat} {f : Fr} {j m : Nat} (h : Filled wr g n f j m) : g < wr.heap.size := by
  obtain ⟨⟨cur, hh, _⟩, _⟩ := h
  exact (Array.getElem?_eq_some_iff.1 hh).1
/-- Over a call that turns nothing old. -/
theorem Filled.below {wr w1 : World} {g n : Nat} {f : Fr} {j m : Nat} (h : Filled wr g n f j m) (hb : Below wr.heap.size wr w1) : Filled w1 g n f j m := by
  have hg := h.lt
  obtain ⟨⟨cur, hh, hs⟩, s, h0, hr, hj, hm, hE⟩ := h
  refine ⟨⟨cur, (hb.block g hg).trans hh, hs⟩, s, h0, hr, hj, Nat.le_trans hm hb.size, fun i k l a hi hx => ?_⟩
  obtain ⟨u, he, hsl⟩ := hE i k l a hi hx
  exact ⟨u, he.below hb hg, hsl.mono (fun g' hg' => hb.block g' (Nat.lt_of_lt_of_le hg'.2 (Nat.le_trans (rising hr hi) (Nat.le_trans hj hm)))) (fun _ hg' => hg')⟩
/-- The next one is stored. -/
theorem Filled.step {w1 : World} {g n m : Nat} {f : Fr} {j : Nat} {k : Int} {l : ByteArray} {u : Value} {a : Fr} (h : Filled w1 g n f j m) (hx : f.items[j]? = some (k, l, a)) (hs : SlT w1 n (fun h => m ≤ h ∧ h < w1.heap.size) u a) :
    let W2 := ((w1.setCell ⟨g, j * 3, none⟩ (.int .i64 k)).setCell ⟨g, j * 3 + 1, none⟩ (.string l)).setCell ⟨g, j * 3 + 2, none⟩ u
    Filled W2 g n f (j + 1) W2.heap.size := by
  intro W2
  have hlt := (List.getElem?_eq_some_iff.1 hx).1
  obtain ⟨⟨x0, b0⟩, ⟨x1, b1⟩, ⟨x2, b2⟩, _⟩ := h.cells hlt
  have hsz : W2.heap.size = w1.heap.size := by simp [W2, World.setCell]
  have ne : ∀ {o o' : Nat}, o ≠ o' → (⟨g, o, none⟩ : Addr) ≠ ⟨g, o', none⟩ := fun h e => by
    injection e with _ e2
    exact h e2
  have far : ∀ o, o < j * 3 ∨ j * 3 + 2 < o → W2.cell? ⟨g, o, none⟩ = w1.cell? ⟨g, o, none⟩ := fun o ho =>
    (World.cell?_setCell_other _ _ _ _ (ne (by omega))).trans ((World.cell?_setCell_other _ _ _ _ (ne (by omega))).trans (World.cell?_setCell_other _ _ _ _ (ne (by omega))))
  have hother : ∀ h, g ≠ h → W2.heap[h]? = w1.heap[h]? := fun h hne =>
    (Below.heap_setCell _ _ _ h (fun e => hne e.symm)).trans ((Below.heap_setCell _ _ _ h (fun e => hne e.symm)).trans (Below.heap_setCell _ _ _ h (fun e => hne e.symm)))
  have d1 : (w1.setCell ⟨g, j * 3, none⟩ (.int .i64 k)).cell? ⟨g, j * 3 + 1, none⟩ = some x1 := (World.cell?_setCell_other _ _ _ _ (ne (by omega))).trans b1
  have d2 : ((w1.setCell ⟨g, j * 3, none⟩ (.int .i64 k)).setCell ⟨g, j * 3 + 1, none⟩ (.string l)).cell? ⟨g, j * 3 + 2, none⟩ = some x2 :=
    (World.cell?_setCell_other _ _ _ _ (ne (by omega))).trans ((World.cell?_setCell_other _ _ _ _ (ne (by omega))).trans b2)
  obtain ⟨⟨cur, hh, hcs⟩, s, h0, hr, hsj, hm, hE⟩ := h
  have hgs : ∀ i, g < s i := fun i => Nat.lt_of_lt_of_le h0 (rising hr (Nat.zero_le i))
  refine ⟨⟨_, heap_setCell_same _ g (j * 3 + 2) _ _ u (heap_setCell_same _ g (j * 3 + 1) _ _ (.string l) (heap_setCell_same w1 g (j * 3) _ _ (.int .i64 k) hh)), by simpa using hcs⟩,
    cutAt s j w1.heap.size, by rw [cutAt_le (Nat.zero_le _)]; exact h0, fun i => ?_, by rw [cutAt_gt (Nat.lt_succ_self _), hsz]; exact Nat.le_refl _, Nat.le_refl _, fun i k' l' a' hi hx' => ?_⟩
  · have := hr i
    by_cases e1 : i + 1 ≤ j
    · rw [cutAt_le (by omega), cutAt_le e1]; exact this
    · rw [cutAt_gt (by omega : j < i + 1)]
      by_cases e2 : i ≤ j
      · rw [cutAt_le e2]
        have := rising hr e2
        omega
      · rw [cutAt_gt (by omega)]; exact Nat.le_refl _
  by_cases e : i = j
  · subst e
    rw [hx] at hx'
    cases hx'
    refine ⟨u, ⟨?_, ?_, World.cell?_setCell_same _ _ _ d2⟩, hs.mono (fun h hh => hother h (by have := hgs i; omega)) (fun h hh => ⟨by rw [cutAt_le (Nat.le_refl _)]; omega, by rw [cutAt_gt (Nat.lt_succ_self _)]; exact hh.2⟩)⟩
    · exact (World.cell?_setCell_other _ _ _ _ (ne (by omega))).trans ((World.cell?_setCell_other _ _ _ _ (ne (by omega))).trans (World.cell?_setCell_same _ _ _ b0))
    · exact (World.cell?_setCell_other _ _ _ _ (ne (by omega))).trans (World.cell?_setCell_same _ _ _ d1)
  · obtain ⟨u', he, hsl⟩ := hE i k' l' a' (by omega) hx'
    refine ⟨u', ⟨(far _ (by omega)).trans he.1, (far _ (by omega)).trans he.2.1, (far _ (by omega)).trans he.2.2⟩, hsl.mono (fun h hh => hother h (by have := hgs i; omega)) (fun h hh => ⟨by rw [cutAt_le (by omega)]; exact hh.1, by rw [cutAt_le (by omega)]; exact hh.2⟩)⟩

theorem to_end {w wr : World} {n : Nat} {f : Fr} (hl : f.items.length ≤ 9223372036854775807) (hls : ∀ (j : Nat) (k : Int) (l : ByteArray) (a : Fr), f.items[j]? = some (k, l, a) → l.size ≤ 9223372036854775807)
    (hF : Filled wr w.heap.size n f f.items.length wr.heap.size) (hb : Below w.heap.size w wr) : ToPostT (n + 1) f w (.returned (.slice (some ⟨w.heap.size, 0, none⟩) f.items.length f.items.length)) wr := by
  have hg := hF.lt
  obtain ⟨⟨cur, hh, hcs⟩, s, h0, hr, hsj, hm, hE⟩ := hF
  have hgs : ∀ i, w.heap.size < s i := fun i => Nat.lt_of_lt_of_le h0 (rising hr (Nat.zero_le i))
  refine ⟨_, rfl, ⟨hl, .inr ⟨w.heap.size, 0, _, fun j h => j < f.items.length ∧ s j ≤ h ∧ h < s (j + 1), rfl, ⟨Nat.le_refl _, hg⟩, ⟨cur, _, hh⟩, fun j h hj => ?_, fun i j h hi hj => ?_, fun j k l a hx => ⟨hls j k l a hx, ?_⟩⟩⟩, hb⟩
  · have h1 := hgs j
    have h2 := rising hr (show j + 1 ≤ f.items.length from hj.1)
    exact ⟨⟨by omega, by omega⟩, by omega⟩
  · by_cases e : i = j
    · exact e
    · by_cases e2 : i < j
      · have := rising hr (show i + 1 ≤ j from e2)
        omega
      · have := rising hr (show j + 1 ≤ i by omega)
        omega
  · obtain ⟨u, he, hsl⟩ := hE j k l a (List.getElem?_eq_some_iff.1 hx).1 hx
    refine ⟨u, by rw [Nat.zero_add]; exact he, hsl.mono (fun _ _ => rfl) (fun h hh => ⟨(List.getElem?_eq_some_iff.1 hx).1, hh.1, hh.2⟩)⟩

set_option maxHeartbeats 1600000 in
theorem toST_any (n : Nat) : ∀ (B : Nat) (v : Value) (f : Fr) (w : World), Sl w B n v f → B ≤ w.heap.size → f.size ≤ 2097152 → Calls Try.prog 30 #[v] w (ToPostT n f w) := by
  induction n with
  | zero => intro B v f w h; exact h.zero.elim
  | succ n ih =>
    intro B v f w hS hB hsz
    obtain ⟨i0, hi, hz0, hz1, hz2⟩ := info_parts rxInfo
    obtain ⟨hl, A, c, rfl, hE⟩ := hS.open
    have hlen := f.len_size
    have HE := Lib.hid hE
    have hls : ∀ (j : Nat) (k : Int) (l : ByteArray) (a : Fr), f.items[j]? = some (k, l, a) → l.size ≤ 9223372036854775807 := fun j k l a hx => by
      obtain ⟨g, o, _, _, k', l', a', u, hx', hls, _⟩ := hE j (List.getElem?_eq_some_iff.1 hx).1
      rw [hx] at hx'
      cases hx'
      exact hls
    have HLS := Lib.hid hls
    clear hE hS hls
    go_enter Try.func30, Try.ntmps30
    go_wp2_with (at_make; refine wpList_make_full _ rfl _ _ 30 rfl w.heap.size 32 i0 _ 3 Try.underlying30 hi hz0 hz1 _ _ _ _ f.items.length rfl rfl rfl rfl (by rw [hz2]; omega) (by unfold maxLen; omega) (Nat.le_refl _) ?_; intro w1 hown hgr)
    have hF0 : Filled w1 w.heap.size n f 0 w1.heap.size ∧ Below w.heap.size w w1 := by
      have hsz : w.heap.size < w1.heap.size := by
        rcases hown.2 with ⟨e, _⟩ | ⟨g, cap, cur, e, _, hh, _, _, hcs, _⟩
        · cases e
        · cases e
          exact (Array.getElem?_eq_some_iff.1 hh).1
      refine ⟨⟨?_, fun _ => w.heap.size + 1, Nat.lt_succ_self _, fun _ => Nat.le_refl _, hsz, Nat.le_refl _, fun i k l a hi => absurd hi (Nat.not_lt_zero _)⟩, ⟨hgr.os, hgr.tape, hgr.output, hgr.size, fun k hk => hgr.block k hk (fun e => by cases e)⟩⟩
      rcases hown.2 with ⟨e, _⟩ | ⟨g, cap, cur, e, _, hh, _, _, hcs, _⟩
      · cases e
      · cases e
        exact ⟨cur, hh, hcs⟩
    obtain ⟨hf0, hb0⟩ := hF0
    clear hown hgr
    go_loopw [4] (fun i wr => ∃ j : Nat, i = .int .i64 j ∧ j ≤ f.items.length ∧ Filled wr w.heap.size n f j wr.heap.size ∧ Below w.heap.size w wr) (fun i _ => f.items.length - (intOf i).toNat)
    case atStart => exact ⟨0, rfl, Nat.zero_le _, hf0, hb0⟩
    case round =>
      obtain ⟨j, rfl, hj, hfil, hb⟩ := hrel
      have HF := Lib.hid hfil
      have HB := Lib.hid hb
      have hwz := hb.size
      clear hfil hb
      by_cases hlt : j < f.items.length
      · obtain ⟨g, o, rfl, hg, k, l, a, u, hx, hls, he, h4⟩ := HE.out j hlt
        obtain ⟨hc0, hc1, hc2⟩ := he.below HB.out (Nat.lt_of_lt_of_le hg hB)
        have hsa := Fr.size_item hx
        have HI := Lib.hid (toNodeT_of ih B k l u a wr (h4.mono (HB.out.mono hB) (Nat.le_refl _)) (by omega) (by omega))
        have HX := Lib.hid hx
        clear he h4 hx
        go_wp2_with fail
        refine HI.out.mono ?_
        rintro e w2 ⟨u', rfl, hsl, hb2⟩
        obtain ⟨A', c', rfl⟩ := hsl.shape
        have HF2 := Lib.hid (HF.out.below hb2)
        obtain ⟨⟨x0, b0⟩, ⟨x1, b1⟩, ⟨x2, b2⟩, hfr⟩ := HF2.out.cells hlt
        have f0 := hfr (j * 3)
        have f1 := hfr (j * 3 + 1)
        have f2 := hfr (j * 3 + 2)
        have HS := Lib.hid (HF2.out.step HX.out hsl)
        have HB2 := Lib.hid ((((HB.out.trans (hb2.mono hwz)).setCell (p := ⟨w.heap.size, j * 3, none⟩) (Nat.le_refl _) (.int .i64 k)).setCell (p := ⟨w.heap.size, j * 3 + 1, none⟩) (Nat.le_refl _) (.string l)).setCell (p := ⟨w.heap.size, j * 3 + 2, none⟩) (Nat.le_refl _) (.slice A' a.items.length c'))
        clear hfr hsl hb2
        go_wp2_with fail
        go_roundw
        case rel => exact ⟨j + 1, by go_num, by omega, HS.out, HB2.out⟩
        case measure => simp [intOf]; omega
      · obtain rfl : j = f.items.length := by omega
        go_wp2_with fail
        go_ret
        exact to_end hl HLS.out HF.out HB.out
theorem toNode_of {n : Nat} (ih : ∀ (B : Nat) (u : Value) (f : Fr) (w : World), Sl w B n u f → B ≤ w.heap.size → f.size ≤ 2097152 → Calls Try.prog 30 #[u] w (ToPostT n f w))
    (B : Nat) (k : Int) (l : ByteArray) (u : Value) (a : Fr) (w : World) (hS : Sl w B n u a) (hB : B ≤ w.heap.size) (hsz : a.size ≤ 2097152) :
    Calls Try.prog 19 #[.agg #[.int .i64 k, .string l, u]] w (ToNode n k l a w) :=
  (toNodeT_of ih B k l u a w hS hB hsz).mono fun _ _ ⟨v, he, hs, hb⟩ => ⟨v, he, hs.sl, hb⟩
theorem toS_any (n : Nat) : ∀ (B : Nat) (v : Value) (f : Fr) (w : World), Sl w B n v f → B ≤ w.heap.size → f.size ≤ 2097152 → Calls Try.prog 30 #[v] w (ToPostT n f w) := toST_any n
theorem own_sl {w w' : World} {n : Nat} {v : Value} {f : Fr} (h : SlP w' (fun g => w.heap.size ≤ g ∧ g < w'.heap.size) n v f) : Sl w' w'.heap.size n v f := SlP.mono (fun _ _ => rfl) (fun _ hg => hg.2) h
end Go.Proofs.Ytppliiingoonlaa

/-
  A constraint in memory: its expression's tree and its row of ints; a box of eight cells. Of no function of the program.
-/
namespace Go.Proofs.Ytppliiingoonlaa
open Go.RowKit
/-- What an expression's slice reads, lies in the heap. -/
theorem SlP.inside {w : World} {S : Nat → Prop} : ∀ {n : Nat} {v : Value} {f : Fr}, SlP w S n v f → SlP w (fun g => g < w.heap.size) n v f
  | 0, _, _, h => h
  | n + 1, v, f, ⟨hl, h⟩ => by
    refine ⟨hl, ?_⟩
    rcases h with h | ⟨g, o, c, hv, hg, hc⟩
    · exact .inl h
    · cases hf : f.items with
      | nil => exact .inl ⟨rfl, some ⟨g, o, none⟩, c, by rw [hv, hf]; rfl⟩
      | cons x r =>
        obtain ⟨k, l, a⟩ := x
        obtain ⟨_, u, he, _⟩ := hc 0 k l a (by rw [hf]; rfl)
        have hgl : g < w.heap.size := World.block_lt_of_cell? w _ he.1
        rw [← hf]
        exact .inr ⟨g, o, c, hv, hgl, fun j k l a hj => by
          obtain ⟨hl', u, he, h4⟩ := hc j k l a hj
          exact ⟨hl', u, he, h4.inside⟩⟩
theorem SlP.len {w : World} {S : Nat → Prop} : ∀ {n : Nat} {v : Value} {f : Fr}, SlP w S n v f → f.items.length ≤ 9223372036854775807
  | 0, _, _, h => h.elim
  | _ + 1, _, _, h => h.1
/-- A row of its own over a call that turns nothing old. -/
theorem RowO.kept {w w' : World} {S : Nat → Prop} {v : Value} {xs : List Value} (h : RowO w S v xs) (hb : Below w.heap.size w w') : RowO w' S v xs := by
  obtain ⟨hl, A, c, rfl, hc⟩ := h
  refine ⟨hl, A, c, rfl, ?_⟩
  rcases hc with h | ⟨g, cur, T, rfl, hg, hh, hx⟩
  · exact .inl h
  · exact .inr ⟨g, cur, T, rfl, hg, (hb.block g (Array.getElem?_eq_some_iff.1 hh).1).trans hh, hx⟩
theorem RowO.any {w : World} {S S' : Nat → Prop} {v : Value} {xs : List Value} (h : RowO w S v xs) (hS : ∀ g, S g → S' g) : RowO w S' v xs := h.mono (fun _ _ => rfl) hS

theorem three_ints {w : World} {S : Nat → Prop} {A : Option Addr} {c : Nat} {a d e : Int} (h : RowO w S (.slice A 3 c) (ints [a, d, e])) :
    ∃ g, A = some ⟨g, 0, none⟩ ∧ w.cell? ⟨g, 0, none⟩ = some (.int .i64 a) ∧ w.cell? ⟨g, 1, none⟩ = some (.int .i64 d) ∧ w.cell? ⟨g, 2, none⟩ = some (.int .i64 e) := by
  obtain ⟨_, A', c', e1, hc⟩ := h
  cases e1
  rcases hc with h | ⟨g, cur, T, rfl, _, hh, hx⟩
  · simp [ints] at h
  · exact ⟨g, rfl, (cell_of_row w g 0 cur T (0, 0) hh).trans (hx 0 _ rfl), (cell_of_row w g 1 cur T (0, 0) hh).trans (hx 1 _ rfl), (cell_of_row w g 2 cur T (0, 0) hh).trans (hx 2 _ rfl)⟩

def maxI : Nat := 9223372036854775807
/-- A constraint that is read: an argument. -/
def CnV (w : World) (xu vc : Value) (c : Cx) : Prop :=
  (c.l.size ≤ maxI ∧ c.r.size ≤ maxI ∧ c.xl.size ≤ maxI) ∧ (∃ n, Sl w w.heap.size n xu c.xa) ∧ RowV w (· < w.heap.size) vc (ints c.cs)
/-- .. whose tree and whose row of ints are its own. -/
def CnO (w : World) (xu vc : Value) (c : Cx) : Prop :=
  (c.l.size ≤ maxI ∧ c.r.size ≤ maxI ∧ c.xl.size ≤ maxI) ∧ (∃ n S, SlT w n S xu c.xa ∧ ∀ g, S g → g < w.heap.size) ∧ RowO w (fun _ => True) vc (ints c.cs)
theorem CnO.read {w : World} {xu vc : Value} {c : Cx} (h : CnO w xu vc c) : (c.l.size ≤ maxI ∧ c.r.size ≤ maxI ∧ c.xl.size ≤ maxI) ∧ (∃ n, Sl w w.heap.size n xu c.xa) ∧ RowO w (fun _ => True) vc (ints c.cs) := by
  obtain ⟨h1, ⟨n, S, h2, h4⟩, h3⟩ := h
  exact ⟨h1, ⟨n, h2.sl.mono (fun _ _ => rfl) h4⟩, h3⟩
theorem SlT.inside {w : World} : ∀ {n : Nat} {S : Nat → Prop} {v : Value} {f : Fr}, SlT w n S v f → SlT w n (fun g => S g ∧ g < w.heap.size) v f
  | 0, _, _, _, h => h
  | n + 1, S, v, f, ⟨hl, h⟩ => by
    refine ⟨hl, ?_⟩
    rcases h with h | ⟨g, o, c, K, hv, hg, hp, hK, hd, hc⟩
    · exact .inl h
    · have hgl : g < w.heap.size := by
        obtain ⟨cur, T, hh⟩ := hp
        exact (Array.getElem?_eq_some_iff.1 hh).1
      refine .inr ⟨g, o, c, fun j h => K j h ∧ h < w.heap.size, hv, ⟨hg, hgl⟩, hp, fun j h hj => ⟨⟨(hK j h hj.1).1, hj.2⟩, (hK j h hj.1).2⟩, fun i j h hi hj => hd i j h hi.1 hj.1, fun j k l a hj => ?_⟩
      obtain ⟨hl', u, he, h4⟩ := hc j k l a hj
      exact ⟨hl', u, he, h4.inside⟩
theorem CnV.kept {w w' : World} {xu vc : Value} {c : Cx} (h : CnV w xu vc c) (hb : Below w.heap.size w w') : CnV w' xu vc c := by
  obtain ⟨h1, ⟨n, h2⟩, h3⟩ := h
  exact ⟨h1, ⟨n, h2.mono hb hb.size⟩, h3.below hb hb.size⟩
theorem CnO.kept {w w' : World} {xu vc : Value} {c : Cx} (h : CnO w xu vc c) (hb : Below w.heap.size w w') : CnO w' xu vc c := by
  obtain ⟨h1, ⟨n, S, h2, h4⟩, h3⟩ := h
  exact ⟨h1, ⟨n, S, h2.mono (fun g hg => hb.block g (h4 g hg)) (fun _ h => h), fun g hg => Nat.lt_of_lt_of_le (h4 g hg) hb.size⟩, h3.kept hb⟩
theorem CnO.shape {w : World} {xu vc : Value} {c : Cx} (h : CnO w xu vc c) : ∃ A m B r, xu = .slice A c.xa.items.length m ∧ vc = .slice B c.cs.length r := by
  obtain ⟨_, ⟨n, h2⟩, h3⟩ := h.read
  obtain ⟨A, m, e1⟩ := SlP.shape h2
  obtain ⟨B, r, e2⟩ := h3.shape
  rw [ints_length] at e2
  exact ⟨A, m, B, r, e1, e2⟩
theorem CnV.shape {w : World} {xu vc : Value} {c : Cx} (h : CnV w xu vc c) : ∃ A m B r, xu = .slice A c.xa.items.length m ∧ vc = .slice B c.cs.length r := by
  obtain ⟨_, ⟨n, h2⟩, h3⟩ := h
  obtain ⟨A, m, e1⟩ := SlP.shape h2
  obtain ⟨B, r, e2⟩ := h3.shape
  rw [ints_length] at e2
  exact ⟨A, m, B, r, e1, e2⟩
/-- A tree of its own and a row of its own, apart, in the blocks S. -/
def CnT (w : World) (S : Nat → Prop) (xu vc : Value) (c : Cx) : Prop :=
  (c.l.size ≤ maxI ∧ c.r.size ≤ maxI ∧ c.xl.size ≤ maxI) ∧ ∃ n SX SC, SlT w n SX xu c.xa ∧ RowO w SC vc (ints c.cs) ∧ (∀ g, SX g → S g ∧ ¬ SC g) ∧ (∀ g, SC g → S g)
theorem CnT.con {w : World} {S : Nat → Prop} {xu vc : Value} {c : Cx} (h : CnT w S xu vc c) : CnO w xu vc c := by
  obtain ⟨h1, n, SX, SC, h2, h3, _, _⟩ := h
  exact ⟨h1, ⟨n, _, h2.inside, fun g hg => hg.2⟩, h3.any fun _ _ => trivial⟩
theorem CnT.mono {w w' : World} {S S' : Nat → Prop} {xu vc : Value} {c : Cx} (h : CnT w S xu vc c) (hs : ∀ g, S g → w'.heap[g]? = w.heap[g]?) (hS : ∀ g, S g → S' g) : CnT w' S' xu vc c := by
  obtain ⟨h1, n, SX, SC, h2, h3, h4, h5⟩ := h
  exact ⟨h1, n, SX, SC, h2.mono (fun g hg => hs g (h4 g hg).1) (fun _ h => h), h3.mono (fun g hg => hs g (h5 g hg)) (fun _ h => h), fun g hg => ⟨hS g (h4 g hg).1, (h4 g hg).2⟩, fun g hg => hS g (h5 g hg)⟩
theorem CnT.kept {w w' : World} {S : Nat → Prop} {xu vc : Value} {c : Cx} (h : CnT w S xu vc c) (hS : ∀ g, S g → g < w.heap.size) (hb : Below w.heap.size w w') : CnT w' S xu vc c :=
  h.mono (fun g hg => hb.block g (hS g hg)) (fun _ h => h)
theorem CnT.chg {w w' : World} {S S' : Nat → Prop} {xu vc : Value} {c : Cx} (h : CnT w S xu vc c) (hS : ∀ g, S g → g < w.heap.size) (hc : Chg S' w w') (hn : ∀ g, S g → ¬ S' g) : CnT w' S xu vc c :=
  h.mono (fun g hg => hc.block g (hS g hg) (hn g hg)) (fun _ h => h)
theorem CnT.shape {w : World} {S : Nat → Prop} {xu vc : Value} {c : Cx} (h : CnT w S xu vc c) : ∃ A m B r, xu = .slice A c.xa.items.length m ∧ vc = .slice B c.cs.length r := h.con.shape
/-- A constraint without a tree. -/
theorem CnT.leaf (w : World) (S : Nat → Prop) (A B : Option Addr) (m r : Nat) (c : Cx) (hl : c.l.size ≤ maxI) (hr : c.r.size ≤ maxI) (hx : c.xl.size ≤ maxI) (ha : c.xa = .nil) (hc : c.cs = []) : CnT w S (.slice A 0 m) (.slice B 0 r) c := by
  refine ⟨⟨hl, hr, hx⟩, 1, fun _ => False, fun _ => False, ?_, ?_, fun _ h => h.elim, fun _ h => h.elim⟩
  · rw [ha]
    exact SlT.none w 0 _ A m
  · rw [hc]
    exact RowO.nil w _ B r

/-- The eight cells of a constraint. -/
def cxA (c : Cx) (xu vc : Value) : Array Value := #[.int .i64 c.k, .string c.l, .string c.r, .int .i64 c.xk, .string c.xl, xu, vc, .int .i64 c.b]
/-- A box that holds them. -/
def BoxC (w : World) (g : Nat) (c : Cx) (xu vc : Value) : Prop := ∃ t, w.heap[g]? = some (.cells (cxA c xu vc) t (0, 0))
def CellC (w : World) (g : Nat) (c : Cx) (xu vc : Value) : Prop :=
  w.cell? ⟨g, 0, none⟩ = some (.int .i64 c.k) ∧ w.cell? ⟨g, 1, none⟩ = some (.string c.l) ∧ w.cell? ⟨g, 2, none⟩ = some (.string c.r) ∧ w.cell? ⟨g, 3, none⟩ = some (.int .i64 c.xk) ∧
  w.cell? ⟨g, 4, none⟩ = some (.string c.xl) ∧ w.cell? ⟨g, 5, none⟩ = some xu ∧ w.cell? ⟨g, 6, none⟩ = some vc ∧ w.cell? ⟨g, 7, none⟩ = some (.int .i64 c.b)
theorem BoxC.cells {w : World} {g : Nat} {c : Cx} {xu vc : Value} (h : BoxC w g c xu vc) : CellC w g c xu vc := by
  obtain ⟨t, h⟩ := h
  have k := fun j => cell_of_row w g j _ t (0, 0) h
  exact ⟨(k 0).trans rfl, (k 1).trans rfl, (k 2).trans rfl, (k 3).trans rfl, (k 4).trans rfl, (k 5).trans rfl, (k 6).trans rfl, (k 7).trans rfl⟩
theorem BoxC.frozen {w : World} {g : Nat} {c : Cx} {xu vc : Value} (h : BoxC w g c xu vc) (j : Nat) : w.frozen? ⟨g, j, none⟩ = false := by
  obtain ⟨t, h⟩ := h
  exact frozen_of_row w g j _ t h
theorem BoxC.lt {w : World} {g : Nat} {c : Cx} {xu vc : Value} (h : BoxC w g c xu vc) : g < w.heap.size := by
  obtain ⟨t, h⟩ := h
  exact (Array.getElem?_eq_some_iff.1 h).1
theorem BoxC.below {w w' : World} {g B : Nat} {c : Cx} {xu vc : Value} (h : BoxC w g c xu vc) (hb : Below B w w') (hg : g < B) : BoxC w' g c xu vc := by
  obtain ⟨t, h⟩ := h
  exact ⟨t, (hb.block g hg).trans h⟩
theorem BoxC.kept {w w' : World} {g : Nat} {c : Cx} {xu vc : Value} (h : BoxC w g c xu vc) (hb : Below w.heap.size w w') : BoxC w' g c xu vc := h.below hb h.lt
theorem BoxC.chg {w w' : World} {S : Nat → Prop} {g : Nat} {c : Cx} {xu vc : Value} (h : BoxC w g c xu vc) (hc : Chg S w w') (hn : ¬ S g) : BoxC w' g c xu vc := by
  have hl := h.lt
  obtain ⟨t, h⟩ := h
  exact ⟨t, (hc.block g hl hn).trans h⟩
theorem boxC_new (w : World) (c : Cx) (xu vc : Value) (t : TypeId) : BoxC (w.alloc (.cells #[.int .i64 c.k, .string c.l, .string c.r, .int .i64 c.xk, .string c.xl, xu, vc, .int .i64 c.b] t)) w.heap.size c xu vc :=
  ⟨t, heap_alloc_new w _⟩
/-- What a box holds, is the world in which it is laid knows it. -/
theorem boxC_at {w w1 : World} (c : Cx) (xu vc : Value) (t : TypeId) (hb : Below (w.heap.size + 1) (w.alloc (.cells #[.int .i64 c.k, .string c.l, .string c.r, .int .i64 c.xk, .string c.xl, xu, vc, .int .i64 c.b] t)) w1) : BoxC w1 w.heap.size c xu vc :=
  (boxC_new w c xu vc t).below hb (Nat.lt_succ_self _)

/-- A constraint comes back in blocks of the call's own. -/
def CopyC (c : Cx) (w : World) (e : Ending) (w' : World) : Prop :=
  ∃ xu vc, e = .returned (.agg #[.int .i64 c.k, .string c.l, .string c.r, .int .i64 c.xk, .string c.xl, xu, vc, .int .i64 c.b]) ∧ CnT w' (OwnB w w') xu vc c ∧ Below w.heap.size w w'
theorem CopyC.shape {c : Cx} {w w' : World} {e : Ending} (h : CopyC c w e w') : ∃ A m B r, e = .returned (.agg #[.int .i64 c.k, .string c.l, .string c.r, .int .i64 c.xk, .string c.xl, .slice A c.xa.items.length m, .slice B c.cs.length r, .int .i64 c.b]) ∧ CnT w' (OwnB w w') (.slice A c.xa.items.length m) (.slice B c.cs.length r) c ∧ Below w.heap.size w w' := by
  obtain ⟨xu, vc, rfl, h2, h3⟩ := h
  obtain ⟨A, m, B, r, rfl, rfl⟩ := h2.shape
  exact ⟨A, m, B, r, rfl, h2, h3⟩
/-- .. and a bool. -/
def CopyCB (c : Cx) (b : Bool) (w : World) (e : Ending) (w' : World) : Prop :=
  ∃ xu vc, e = .returned (.tuple #[.agg #[.int .i64 c.k, .string c.l, .string c.r, .int .i64 c.xk, .string c.xl, xu, vc, .int .i64 c.b], .bool b]) ∧ CnT w' (OwnB w w') xu vc c ∧ Below w.heap.size w w'
theorem CopyCB.shape {c : Cx} {b : Bool} {w w' : World} {e : Ending} (h : CopyCB c b w e w') : ∃ A m B r, e = .returned (.tuple #[.agg #[.int .i64 c.k, .string c.l, .string c.r, .int .i64 c.xk, .string c.xl, .slice A c.xa.items.length m, .slice B c.cs.length r, .int .i64 c.b], .bool b]) ∧ CnT w' (OwnB w w') (.slice A c.xa.items.length m) (.slice B c.cs.length r) c ∧ Below w.heap.size w w' := by
  obtain ⟨xu, vc, rfl, h2, h3⟩ := h
  obtain ⟨A, m, B, r, rfl, rfl⟩ := h2.shape
  exact ⟨A, m, B, r, rfl, h2, h3⟩
/-- Strings, nodes, letters and ints. -/
def wtC (c : Cx) : Nat := c.l.size + (c.r.size + (c.xl.size + wt c.xa + c.cs.length))
end Go.Proofs.Ytppliiingoonlaa

/-
  An argument that is an expression, read as a forest.
-/
namespace Go.Proofs.Ytppliiingoonlaa
open Go.ChangeShapes Go.WideShapes Go.RowKit Go.Deep
def ofItems : List (Int × ByteArray × Fr) → Fr
  | [] => .nil
  | x :: r => .cons x.1 x.2.1 x.2.2 (ofItems r)
theorem ofItems_items : ∀ L, (ofItems L).items = L
  | [] => rfl
  | x :: r => by simp [ofItems, Fr.items, ofItems_items r]

theorem rxCells : Try.prog.cellsOf 24 = 3 := by kernel_rfl
theorem rx_add_block (a : Addr) (n : Nat) : (a.add n).block = a.block := by unfold Addr.add; split <;> rfl
theorem spot_none {w : World} {a : Addr} {v : Value} (h : w.cell? a = some v) : a.spot = none := by
  cases hs : a.spot with
  | none => rfl
  | some x =>
    unfold World.cell? at h
    split at h
    · simp [hs] at h
    · simp at h

set_option maxRecDepth 100000 in
theorem open_rows {H : Type} {enc : TypeId × Value → H} {w : World} {spare : Nat → Bool} {held : Bool} : ∀ (fuel : Nat) {cs : List Value} {x : DataW H × List MemPlace},
    DataW.trod enc Try.prog w 0 spare held fuel 22 cs = some x → ∃ v f, cs = [v] ∧ Sl w w.heap.size fuel v f := by
  intro fuel
  induction fuel using Nat.strongRecOn with
  | ind fuel ih =>
    intro cs x h
    rcases DataW.trod_slice Try.underlying22 h with ⟨rfl, rfl⟩ | ⟨a, len, cap, elems, rest, n, rfl, rfl, hx, hb, hl, hm, hlen, hel, _, _⟩
    · cases fuel with
      | zero => simp [DataW.trod] at h
      | succ n => exact ⟨_, .nil, rfl, by simp [Fr.items], .inl ⟨rfl, none, 0, rfl⟩⟩
    · by_cases h0 : len = 0
      · subst h0
        exact ⟨_, .nil, rfl, by simp [Fr.items], .inl ⟨rfl, _, _, rfl⟩⟩
      · have hel' : ∀ i, i < len → ∃ q : Int × ByteArray × Fr, q.2.1.size ≤ 9223372036854775807 ∧ w.cell? (a.add (i * 3)) = some (.int .i64 q.1) ∧ w.cell? (a.add (i * 3 + 1)) = some (.string q.2.1) ∧ ∃ u, w.cell? (a.add (i * 3 + 2)) = some u ∧ Sl w w.heap.size n u q.2.2 := fun i hi => by
          have h1 := hel i hi
          rw [List.getElem?_eq_getElem (by omega), rxCells] at h1
          obtain ⟨cs', hc, ht⟩ := Option.bind_eq_some_iff.1 h1
          obtain ⟨_, hcl, hat⟩ := World.cells?_some hc
          obtain ⟨xs, n', rfl, _, _, hxl, hf⟩ := DataW.trod_struct Try.underlying24 ht
          match cs', hcl with
          | [c0, c1, c2], _ =>
            have g0 := hf 0 _ rfl
            have g1 := hf 1 _ rfl
            have g2 := hf 2 _ rfl
            have hx3 : xs.length = 3 := hxl
            rw [List.getElem?_eq_getElem (by omega)] at g0 g1 g2
            obtain ⟨k, e0, _, _⟩ := DataW.trod_int Try.underlying3 g0
            obtain ⟨s, e1, _, hs⟩ := DataW.trod_string Try.underlying9 g1
            obtain ⟨u, f, e2, hsl⟩ := ih n' (by omega) g2
            have k0 : c0 = .int .i64 k := by simpa [show Try.prog.cellsOf 3 = 1 by kernel_rfl] using e0
            have k1 : c1 = .string s := by simpa [show Try.prog.cellsOf 9 = 1 by kernel_rfl] using e1
            have k2 : c2 = u := by simpa [show Try.prog.cellsOf 22 = 1 by kernel_rfl] using e2
            refine ⟨(k, s, f), by unfold maxLen at hs; omega, ?_, ?_, c2, ?_, ?_⟩
            · have := hat 0 (by omega)
              rw [Go.Deep.add_add] at this
              simpa [k0] using this
            · have := hat 1 (by omega)
              rw [Go.Deep.add_add] at this
              simpa [k1] using this
            · have := hat 2 (by omega)
              rw [Go.Deep.add_add] at this
              simpa using this
            · rw [k2]
              exact SlP.more hsl
        obtain ⟨F, hF⟩ := choose_lt hel'
        have hF0 := hF 0 (by omega)
        have hsp : a.spot = none := by
          have := spot_none hF0.2.1
          rwa [Nat.zero_mul, show a.add 0 = a by unfold Addr.add; rw [if_pos rfl]] at this
        obtain ⟨g, o, sp⟩ := a
        simp only at hsp
        subst hsp
        have hgl : g < w.heap.size := by
          have := World.block_lt_of_cell? w _ hF0.2.1
          rwa [rx_add_block] at this
        have hit : (ofItems ((List.range len).map F)).items = (List.range len).map F := ofItems_items _
        have hil : (ofItems ((List.range len).map F)).items.length = len := by rw [hit]; simp
        refine ⟨_, ofItems ((List.range len).map F), rfl, by rw [hil]; unfold maxLen at hm; omega, .inr ⟨g, o, cap, by rw [hil], hgl, fun j k l b hj => ?_⟩⟩
        rw [hit] at hj
        have hjl : j < len := by have := (List.getElem?_eq_some_iff.1 hj).1; simpa using this
        have hj2 : F j = (k, l, b) := by simpa [hjl] using hj
        obtain ⟨h1, h2, h3, u, h4, h5⟩ := hF j hjl
        rw [hj2] at h1 h2 h3 h5
        rw [Addr.add_lit] at h2 h3 h4
        exact ⟨h1, u, ⟨h2, by rw [Nat.add_assoc]; exact h3, by rw [Nat.add_assoc]; exact h4⟩, h5⟩

set_option maxRecDepth 100000 in
/-- An expression handed in by value. -/
theorem open_rx {H : Type} {enc : TypeId × Value → H} {w : World} {spare : Nat → Bool} {held : Bool} {r : Reach} {b0 : Nat} {v : Value} {d : DataW H} {p : List MemPlace}
    (hv : Value.okWide Try.prog w r b0 24 v) (h : DataW.Trod enc Try.prog w 0 spare held 24 v d p) :
    ∃ k l u f n, v = .agg #[.int .i64 k, .string l, u] ∧ l.size ≤ 9223372036854775807 ∧ Sl w w.heap.size n u f := by
  obtain ⟨v0, v1, v2, y0, y1, y2, n, rfl, rfl, rfl, h0, h1, h2⟩ := Go.Joins.open_agg3 Try.underlying24 (by kernel_rfl) rxCells hv h
  obtain ⟨k, e0, _, _⟩ := DataW.trod_int Try.underlying3 h0
  obtain ⟨s, e1, _, hs⟩ := DataW.trod_string Try.underlying9 h1
  obtain ⟨u, f, e2, hsl⟩ := open_rows n h2
  simp only [List.cons.injEq, and_true] at e0 e1 e2
  subst e0 e1 e2
  exact ⟨k, s, _, f, n, rfl, by unfold maxLen at hs; omega, hsl⟩
end Go.Proofs.Ytppliiingoonlaa

/-
  An argument that is a constraint, read.
-/
namespace Go.Proofs.Ytppliiingoonlaa
open Go.ChangeShapes Go.WideShapes Go.RowKit Go.Deep
section
variable {H : Type} {enc : TypeId × Value → H} {w : World}
theorem list8v : ∀ (l : List Value), l.length = 8 → ∃ a b c d e f g h, l = [a, b, c, d, e, f, g, h]
  | [a, b, c, d, e, f, g, h], _ => ⟨a, b, c, d, e, f, g, h, rfl⟩
set_option maxRecDepth 100000 in
theorem read_ints {fuel : Nat} {v : Value} {x : DataW H × List MemPlace} (h : DataW.trod enc Try.prog w 0 (fun _ => true) true fuel 25 [v] = some x) : ∃ l, RowV w (· < w.heap.size) v (ints l) := by
  rcases Go.ChangeShapes.open_ints Try.underlying25 Try.underlying3 (by kernel_rfl) h with ⟨hcs, _⟩ | ⟨a, len, cap, zs, hcs, _, hl, hm, hz, _, hx, _⟩
  · simp at hcs
    subst hcs
    exact ⟨[], Nat.zero_le _, none, 0, rfl, fun j x hx => by simp [ints] at hx⟩
  · simp at hcs
    subst hcs
    unfold maxLen at hm
    simp at hz
    refine ⟨zs.take len, by rw [ints_length, List.length_take]; omega, some a, cap, by rw [ints_length, List.length_take, Nat.min_eq_left (by omega)], fun j x hj => ?_⟩
    have hjl : j < len := by
      have := (List.getElem?_eq_some_iff.1 hj).1
      rw [ints_length, List.length_take] at this
      omega
    have hc := hx j (by omega)
    refine ⟨a, rfl, by have := cell_in hc; rwa [add_block] at this, ?_⟩
    rw [hc, ← hj]
    simp [ints, List.getD, hjl, List.getElem?_eq_getElem (show j < zs.length by omega)]

set_option maxRecDepth 100000 in
/-- A constraint handed in by value. -/
theorem open_cn {r : Reach} {b0 : Nat} {v : Value} {d : DataW H} {p : List MemPlace} (hv : Value.okWide Try.prog w r b0 27 v) (h : DataW.Trod enc Try.prog w 0 (fun _ => true) true 27 v d p) :
    ∃ c xu vc, v = .agg #[.int .i64 c.k, .string c.l, .string c.r, .int .i64 c.xk, .string c.xl, xu, vc, .int .i64 c.b] ∧ CnV w xu vc c := by
  obtain ⟨cs, rfl, hsz⟩ := okWide_struct Try.underlying27 hv
  have h8 : cs.size = 8 := hsz.trans (by kernel_rfl)
  obtain ⟨cs⟩ := cs
  obtain ⟨v0, v1, v2, v3, v4, v5, v6, v7, rfl⟩ := list8v cs h8
  obtain ⟨fuel, hf⟩ := h
  obtain ⟨xs, n, rfl, _, _, hxl, hf⟩ := DataW.trod_struct Try.underlying27 hf
  have hx6 : xs.length = 6 := hxl
  have g0 := hf 0 _ rfl
  have g1 := hf 1 _ rfl
  have g2 := hf 2 _ rfl
  have g3 := hf 3 _ rfl
  have g4 := hf 4 _ rfl
  have g5 := hf 5 _ rfl
  rw [List.getElem?_eq_getElem (by omega)] at g0 g1 g2 g3 g4 g5
  obtain ⟨k, e0, _, _⟩ := DataW.trod_int Try.underlying3 g0
  obtain ⟨l, e1, _, hl⟩ := DataW.trod_string Try.underlying9 g1
  obtain ⟨rr, e2, _, hr⟩ := DataW.trod_string Try.underlying9 g2
  obtain ⟨b, e5, _, _⟩ := DataW.trod_int Try.underlying3 g5
  obtain ⟨ys, n', rfl, _, _, hyl, hy⟩ := DataW.trod_struct Try.underlying24 g3
  have hy3 : ys.length = 3 := hyl
  have q0 := hy 0 _ rfl
  have q1 := hy 1 _ rfl
  have q2 := hy 2 _ rfl
  rw [List.getElem?_eq_getElem (by omega)] at q0 q1 q2
  obtain ⟨xk, a0, _, _⟩ := DataW.trod_int Try.underlying3 q0
  obtain ⟨xl, a1, _, hxs⟩ := DataW.trod_string Try.underlying9 q1
  obtain ⟨u, f, a2, hsl⟩ := open_rows n' q2
  have ci : Try.prog.cellsOf 3 = 1 := by kernel_rfl
  have cst : Try.prog.cellsOf 9 = 1 := by kernel_rfl
  have cr : Try.prog.cellsOf 24 = 3 := by kernel_rfl
  have crs : Try.prog.cellsOf 22 = 1 := by kernel_rfl
  have cis : Try.prog.cellsOf 25 = 1 := by kernel_rfl
  have k0 : v0 = .int .i64 k := by simpa [Value.cells, ci] using e0
  have k1 : v1 = .string l := by simpa [Value.cells, cst] using e1
  have k2 : v2 = .string rr := by simpa [Value.cells, cst] using e2
  have k3 : v3 = .int .i64 xk := by simpa [Value.cells, ci, cr] using a0
  have k4 : v4 = .string xl := by simpa [Value.cells, cst, cr] using a1
  have k5 : v5 = u := by simpa [Value.cells, crs, cr] using a2
  have k7 : v7 = .int .i64 b := by simpa [Value.cells, ci] using e5
  have g4' : DataW.trod enc Try.prog w 0 (fun _ => true) true (n' + 1) 25 [v6] = some xs[4] := by
    have := g4
    simpa [Value.cells, cis] using this
  obtain ⟨cs, hcs⟩ := read_ints g4'
  subst k0 k1 k2 k3 k4 k5 k7
  unfold maxLen at hl hr hxs
  exact ⟨⟨k, l, rr, xk, xl, f, cs, b⟩, _, _, rfl, ⟨by unfold maxI; omega, by unfold maxI; omega, by unfold maxI; omega⟩, ⟨_, hsl⟩, hcs⟩
end
end Go.Proofs.Ytppliiingoonlaa
