/-
  What a product and a complement accept, word by word. Of no function of the program but the answers' names.
-/
import Derived.Test.YtlkhmpdncimnfaaAuD
import Derived.Test.YtlkhmpdncimnfaaProR
import Derived.Test.YtlkhmpdncimnfaaSpecTo
namespace Go.Proofs.Ytlkhmpdncimnfaa
open Go.RowKit

theorem fields_run {m : Au} (h : m.wf) : ∀ (u : List Nat) (q : Nat), W3 u → q < m.n → (auD (fieldsOf m)).run q u = m.run q u
  | [], _, _, _ => rfl
  | k :: u, q, hu, hq => by
    obtain ⟨hk, hu'⟩ := hu.tail
    have e : (auD (fieldsOf m)).T q k = m.T q k := by
      show ((((fieldsOf m).nxt).getD q []).getD k 0).toNat = m.T q k
      have h1 : (fieldsOf m).nxt = nxtOf m := rfl
      rw [h1, List.getD_eq_getElem?_getD, List.getD_eq_getElem?_getD, nxtOf_at m hq]
      simp [hk]
    show (auD (fieldsOf m)).run ((auD (fieldsOf m)).T q k) u = m.run (m.T q k) u
    rw [e]
    exact fields_run h u _ hu' (h.2 q k hq hk)
theorem fields_valid {m : Au} (h : m.wf) (hn : m.n ≤ 40) : validD (fieldsOf m) = true := validF_of h hn
theorem isW_W3 {s : List UInt8} (hs : isW s = true) : W3 (idxs s) := by
  unfold isW at hs
  simp only [Bool.and_eq_true] at hs
  exact idxs_W3 hs.1
theorem acc_of {d : Dx} (hv : validD d = true) {s : List UInt8} (hs : isW s = true) : accR d s = (auD d).A ((auD d).run 0 (idxs s)) := by
  have h1 : 1 ≤ d.acc.length := by
    have := (fieldsOf_au hv).1.1
    exact this
  unfold accR runOk
  rw [hv, hs]
  have h2 : decide ((0 : Int) ≤ (d.acc.length : Int) - 1) = true := by simp; omega
  rw [h2]
  simp
theorem acc_not {d : Dx} (hv : validD d = false) (s : List UInt8) : accR d s = false := by
  unfold accR runOk
  rw [hv]
  simp
theorem acc_fields {m : Au} (h : m.wf) (hn : m.n ≤ 40) {s : List UInt8} (hs : isW s = true) : accR (fieldsOf m) s = m.A (m.run 0 (idxs s)) := by
  rw [acc_of (fields_valid h hn) hs, fields_run h _ 0 (isW_W3 hs) h.1]
  have hq := Au.run_lt h (idxs s) 0 (isW_W3 hs) h.1
  show ((fieldsOf m).acc).getD _ false = _
  have h1 : (fieldsOf m).acc = accOf m := rfl
  rw [h1, List.getD_eq_getElem?_getD, accOf_at m hq]
  rfl
theorem pro_acc {a b y : Dx} {kind : Int} (h : proR a b kind y true) {s : List UInt8} (hs : isW s = true) : accR y s = fK kind (accR a s) (accR b s) := by
  unfold proR at h
  by_cases hc : validD a = true ∧ validD b = true ∧ (kind = 6 ∨ kind = 7)
  · rw [if_pos hc] at h
    obtain ⟨m, h1, h2, rfl, h3⟩ := h
    have hn : m.n ≤ 40 := by simpa using h3.symm
    rw [show fitD m = fieldsOf m by unfold fitD; rw [if_pos hn], acc_fields h1.wf hn hs, acc_of hc.1 hs, acc_of hc.2.1 hs, h2 _ (isW_W3 hs)]
    exact prd_lang (fieldsOf_au hc.2.1).1 _ (isW_W3 hs)
  · rw [if_neg hc] at h
    exact absurd h.2 (by simp)
theorem pro_kind {a b y : Dx} {kind : Int} (h : proR a b kind y true) : kind = 6 ∨ kind = 7 := by
  unfold proR at h
  by_cases hc : validD a = true ∧ validD b = true ∧ (kind = 6 ∨ kind = 7)
  · exact hc.2.2
  · rw [if_neg hc] at h
    exact absurd h.2 (by simp)
theorem com_acc {x y : Dx} (h : minR x y) (hv : validD x = true) {s : List UInt8} (hs : isW s = true) : accR (comD y) s = !accR x s := by
  unfold minR at h
  rw [if_pos hv] at h
  obtain ⟨m, h1, h2, rfl⟩ := h
  have hn : m.n ≤ 40 := by
    obtain ⟨m', n1, n2, n3⟩ := exists_min (fieldsOf_au hv).1
    have := (canon_unique h1 n1 (h2.swap n2)).1
    have := (fieldsOf_au hv).2.1
    omega
  have e : comD (fieldsOf m) = fieldsOf ⟨m.n, fun q => !m.A q, m.T⟩ := by
    unfold comD fieldsOf accOf nxtOf
    simp
  have hr : ∀ (u : List Nat) (q : Nat), Au.run ⟨m.n, fun q => !m.A q, m.T⟩ q u = m.run q u := by
    intro u
    induction u with
    | nil => intro q; rfl
    | cons k u ih => intro q; exact ih _
  rw [e, acc_fields (m := ⟨m.n, fun q => !m.A q, m.T⟩) h1.wf hn hs, hr, acc_of hv hs, ← h2 _ (isW_W3 hs)]
theorem words3 : ((under 4).all fun s => isW s && decide (s.length ≤ 30)) = true := by decide +kernel
end Go.Proofs.Ytlkhmpdncimnfaa
