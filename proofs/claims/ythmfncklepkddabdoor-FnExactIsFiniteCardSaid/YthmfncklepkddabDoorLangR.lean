/-
  What the functions over languages answer: the first word, the first word that tells two automata apart, inclusion, counts, finiteness. Of no function of the program but the answers' names.
-/
import Derived.Test.YthmfncklepkddabDoorFstN
import Derived.Test.YthmfncklepkddabDoorLngM
import Derived.Test.YthmfncklepkddabDoorAuD
namespace Go.Proofs.YthmfncklepkddabDoor
open Go.RowKit

def wO : Option (List Nat) → ByteArray
  | none => ⟨#[]⟩
  | some u => wbytes u
theorem firstR_some {a : Au} (ha : a.wf) : ∃ r, FirstR (fun u => a.A (a.run 0 u) = true) r ∧ ∀ u, r = some u → u.length < a.n := by
  obtain ⟨N, hN, hE⟩ := au_ends ha
  have hon : ∀ i, i < N → i < (ords 0 a.T (3 * i)).length := hE.on
  by_cases h : ∃ i, i < N ∧ a.A (keyI 0 a.T i) = true
  · have key : ∀ i, i < N → a.A (keyI 0 a.T i) = true → ∃ j, j < N ∧ a.A (keyI 0 a.T j) = true ∧ ∀ m, m < j → a.A (keyI 0 a.T m) = false := by
      intro i
      induction i using Nat.strongRecOn with
      | ind i ih =>
        intro hi hg
        by_cases hm : ∃ m, m < i ∧ a.A (keyI 0 a.T m) = true
        · obtain ⟨m, h1, h2⟩ := hm
          exact ih m h1 (by omega) h2
        · refine ⟨i, hi, hg, fun m hmi => ?_⟩
          rw [← Bool.not_eq_true]
          exact fun hh => hm ⟨m, hmi, hh⟩
    obtain ⟨i, hi, hg⟩ := h
    obtain ⟨j, hj, hg, hn⟩ := key i hi hg
    obtain ⟨h1, h2⟩ := fst_here ha (fun m hm => hon m (by omega)) (hon j hj) hg hn
    refine ⟨_, h1, fun u hu => ?_⟩
    cases hu
    omega
  · refine ⟨none, fst_end hon (by rw [ordI_length]; have := hE.stop; omega) (fun j hj => ?_), fun u hu => by cases hu⟩
    rw [← Bool.not_eq_true]
    exact fun hh => h ⟨j, hj, hh⟩
/-- What ShortestWord answers. -/
def shoR (d : Dx) (s : ByteArray) (ok : Bool) : Prop := if validD d = true then ∃ r, FirstR (fun u => (auD d).A ((auD d).run 0 u) = true) r ∧ s = wO r ∧ ok = r.isSome else s = ⟨#[]⟩ ∧ ok = false
theorem shoR_some (d : Dx) : ∃ s ok, shoR d s ok := by
  unfold shoR
  by_cases h : validD d = true
  · simp only [if_pos h]
    obtain ⟨r, hr, -⟩ := firstR_some (fieldsOf_au h).1
    exact ⟨_, _, r, hr, rfl, rfl⟩
  · simp only [if_neg h]
    exact ⟨_, _, rfl, rfl⟩
theorem shoR_yes {d : Dx} {s : ByteArray} {ok : Bool} (h : shoR d s ok) (hv : validD d = true) {r : Option (List Nat)} (hr : FirstR (fun u => (auD d).A ((auD d).run 0 u) = true) r) : s = wO r ∧ ok = r.isSome := by
  unfold shoR at h
  rw [if_pos hv] at h
  obtain ⟨r', h1, h2, h3⟩ := h
  rw [firstR_one h1 hr] at h2 h3
  exact ⟨h2, h3⟩
theorem shoR_no {d : Dx} {s : ByteArray} {ok : Bool} (h : shoR d s ok) (hv : validD d = false) : s = ⟨#[]⟩ ∧ ok = false := by
  unfold shoR at h
  rwa [if_neg (by rw [hv]; decide)] at h
/-- The automaton of pairs; what it tells of a pair. -/
def pairF (both : Bool) (p q : Bool) : Bool := (p && !q) || (both && q && !p)
theorem pairF_differ (p q : Bool) : pairF true p q = (p != q) := by cases p <;> cases q <;> rfl
theorem pairF_less (p q : Bool) : pairF false p q = (p && !q) := by cases p <;> cases q <;> rfl
/-- The first word that the automaton of pairs accepts, as an answer. -/
def tellR (both : Bool) (a b : Dx) (s : ByteArray) (ok : Bool) : Prop :=
  if validD a = true ∧ validD b = true then ∃ r, FirstR (fun u => pairF both ((auD a).A ((auD a).run 0 u)) ((auD b).A ((auD b).run 0 u)) = true) r ∧ s = wO r ∧ ok = r.isSome else s = ⟨#[]⟩ ∧ ok = false
theorem firstR_congr {P Q : List Nat → Prop} (h : ∀ w, W3 w → (P w ↔ Q w)) : ∀ {r : Option (List Nat)}, FirstR P r → FirstR Q r
  | none, hr => fun w hw hq => hr w hw ((h w hw).2 hq)
  | some w, ⟨h1, h2, h3⟩ => ⟨h1, (h w h1).1 h2, fun v hv hq => h3 v hv ((h v hv).2 hq)⟩
theorem tell_pairs {both : Bool} {a b : Au} (hb : b.wf) {r : Option (List Nat)} (hr : FirstR (fun u => (prd a b (pairF both)).A ((prd a b (pairF both)).run 0 u) = true) r) : FirstR (fun u => pairF both (a.A (a.run 0 u)) (b.A (b.run 0 u)) = true) r :=
  firstR_congr (fun w hw => by rw [prd_lang hb _ hw]) hr
theorem tellR_some (both : Bool) (a b : Dx) : ∃ s ok, tellR both a b s ok := by
  unfold tellR
  by_cases h : validD a = true ∧ validD b = true
  · simp only [if_pos h]
    obtain ⟨r, hr, -⟩ := firstR_some (prd_wf (pairF both) (fieldsOf_au h.1).1 (fieldsOf_au h.2).1)
    exact ⟨_, _, r, tell_pairs (fieldsOf_au h.2).1 hr, rfl, rfl⟩
  · simp only [if_neg h]
    exact ⟨_, _, rfl, rfl⟩
theorem tellR_yes {both : Bool} {a b : Dx} {s : ByteArray} {ok : Bool} (h : tellR both a b s ok) (ha : validD a = true) (hb : validD b = true) {r : Option (List Nat)} (hr : FirstR (fun u => pairF both ((auD a).A ((auD a).run 0 u)) ((auD b).A ((auD b).run 0 u)) = true) r) : s = wO r ∧ ok = r.isSome := by
  unfold tellR at h
  rw [if_pos ⟨ha, hb⟩] at h
  obtain ⟨r', h1, h2, h3⟩ := h
  rw [firstR_one h1 hr] at h2 h3
  exact ⟨h2, h3⟩
theorem tellR_no {both : Bool} {a b : Dx} {s : ByteArray} {ok : Bool} (h : tellR both a b s ok) (hv : ¬ (validD a = true ∧ validD b = true)) : s = ⟨#[]⟩ ∧ ok = false := by
  unfold tellR at h
  rwa [if_neg hv] at h
/-- What CountWords answers. -/
def cntR (d : Dx) (n : Int) : Int := if validD d = true ∧ 0 ≤ n ∧ n ≤ 20 then (waysN (auD d) n.toNat 0 : Int) else 0
/-- What IsFinite answers. -/
noncomputable def finB (d : Dx) : Bool := @decide (validD d = true ∧ FinL (auD d)) (Classical.propDecidable _)
theorem finB_iff {d : Dx} : finB d = true ↔ validD d = true ∧ FinL (auD d) := @decide_eq_true_iff _ (Classical.propDecidable _)
/-- What LengthsOf answers. -/
def lenR (d : Dx) (o : List Bool) (p : Int) : Prop := if validD d = true then ∃ q : Nat, LenR (auD d) o q ∧ p = q else o = [] ∧ p = 0
end Go.Proofs.YthmfncklepkddabDoor
