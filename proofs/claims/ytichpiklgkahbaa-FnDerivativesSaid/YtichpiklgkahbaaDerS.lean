/-
  What spec.l4Derive and spec.DerivativeOf answer.
-/
import Derived.Test.YtichpiklgkahbaaDerSs
import Derived.Test.YtichpiklgkahbaaMatchS
namespace Go.Proofs.Ytichpiklgkahbaa
open Go.RowKit

theorem byte_ne {a b : ByteArray} (h : a ≠ b) : (a.toList == b.toList) = false := by
  rw [beq_eq_false_iff_ne]
  intro e
  rw [ByteArray.toList_eq, ByteArray.toList_eq] at e
  exact h (ByteArray.ext (Array.toList_inj.1 e))
/-- What is known of a node's parts, in a slice of them. -/
theorem kids_of {P : Program} {dv cp : Nat} {cl : ByteArray} {n B : Nat} {A : Option Addr} {c : Nat} {a : Fr} {w : World} (hS : Sl w B (n + 1) (.slice A a.items.length c) a) (hB : B ≤ w.heap.size) (hall : allRow a = true) (hsz : a.size ≤ 60)
    (hder : ∀ (k : Int) (l : ByteArray) (u : Value) (a : Fr) (W : World), Sl W B n u a → B ≤ W.heap.size → (allRow a && nodeOk k l a.items.length) = true → a.size ≤ 60 → l.size ≤ 9223372036854775807 → Calls P dv #[.agg #[.int .i64 k, .string l, u], .string cl] W (NdT (2 * n + 1) (nodeD cl k l a (ders cl a)) W))
    (hcop : ∀ (k : Int) (l : ByteArray) (u : Value) (a : Fr) (W : World), Sl W B n u a → B ≤ W.heap.size → a.size ≤ 2097152 → Calls P cp #[.agg #[.int .i64 k, .string l, u]] W (NdT n (k, l, a) W)) :
    ∀ j x, a.items[j]? = some x → ∃ g o A' c', Kid P dv cp (2 * n + 1) n cl w A j x (nodeD cl x.1 x.2.1 x.2.2 (ders cl x.2.2)) g o A' c' ∧ Sl w B n (.slice A' x.2.2.items.length c') x.2.2 ∧ (allRow x.2.2 && nodeOk x.1 x.2.1 x.2.2.items.length) = true ∧ x.2.2.size ≤ 60 := by
  intro j x hx
  obtain ⟨-, A1, c1, hv, hE⟩ := hS.open
  cases hv
  obtain ⟨g, o, hA, hg, k', l', a', u', hx', hls, he, h4⟩ := hE j (List.getElem?_eq_some_iff.1 hx).1
  obtain ⟨A', c', rfl⟩ := SlP.shape h4
  rw [hx'] at hx
  cases hx
  have hok := item_ok hall hx'
  have hsa := Fr.size_item hx'
  exact ⟨g, o, A', c', ⟨hA, Nat.lt_of_lt_of_le hg hB, he, fun W hW => hder k' l' _ a' W (h4.mono (hW.mono hB) (Nat.le_refl _)) (Nat.le_trans hB hW.size) hok (by omega) hls, fun W hW => hcop k' l' _ a' W (h4.mono (hW.mono hB) (Nat.le_refl _)) (Nat.le_trans hB hW.size) (by omega), hls, nodeD_l _ _ _ _ _⟩, h4, hok, by show a'.size ≤ 60; omega⟩
theorem kid_same {P : Program} {dv cp D n : Nat} {cl : ByteArray} {w : World} {A A' : Option Addr} {j c' g o g1 o1 : Nat} {x d : Nx} (h : Kid P dv cp D n cl w A j x d g o A' c') (h1 : A = some ⟨g1, o1, none⟩) : Kid P dv cp D n cl w A j x d g1 o1 A' c' := by
  have := h.at_.symm.trans h1
  cases this
  exact h
theorem getD_of {L : List Nx} {j : Nat} {x : Nx} (h : L[j]? = some x) : L.getD j noX = x := by
  rw [List.getD_eq_getElem?_getD, h]
  rfl

theorem specDerive_any (cl : ByteArray) (n : Nat) : ∀ (B : Nat) (k : Int) (l : ByteArray) (u : Value) (a : Fr) (w : World), Sl w B n u a → B ≤ w.heap.size → (allRow a && nodeOk k l a.items.length) = true → a.size ≤ 60 → l.size ≤ 9223372036854775807 →
    Calls Try.prog 31 #[.agg #[.int .i64 k, .string l, u], .string cl] w (NdT (2 * n + 1) (nodeD cl k l a (ders cl a)) w) := by
  induction n with
  | zero => intro B k l u a w h; exact h.zero.elim
  | succ n ih =>
    intro B k l u a w hS hB hok hsz hls
    have hok' := hok
    rw [Bool.and_eq_true] at hok'
    obtain ⟨hall, hnode⟩ := hok'
    obtain ⟨A, c, rfl⟩ := SlP.shape hS
    have kids := kids_of (P := Try.prog) (dv := 31) (cp := 56) (cl := cl) hS hB hall hsz (fun k l u a W => ih B k l u a W) (fun k l u a W => specCopy_any n B k l u a W)
    have hcopy : ∀ W, Below w.heap.size w W → Calls Try.prog 56 #[.agg #[.int .i64 k, .string l, .slice A a.items.length c]] W (NdT (n + 1) (k, l, a) W) := fun W hW => specCopy_any (n + 1) B k l _ a W (hS.mono (hW.mono hB) (Nat.le_refl _)) (Nat.le_trans hB hW.size) (by omega)
    have row : ∀ j x, a.items[j]? = some x → ∃ g o A' c', Kid Try.prog 31 56 (2 * n + 1) n cl w A j x (nodeD cl x.1 x.2.1 x.2.2 (ders cl x.2.2)) g o A' c' := fun j x hx => by
      obtain ⟨g, o, A', c', h, _⟩ := kids j x hx
      exact ⟨g, o, A', c', h⟩
    show Calls _ _ _ _ (NdT (2 * n + 3) _ _)
    rcases nodeOk_cases hnode with ⟨rfl, hm⟩ | ⟨rfl, hm⟩ | ⟨rfl, hl1, hm⟩ | ⟨rfl, hm⟩ | ⟨rfl, hm⟩ | ⟨rfl, hm⟩ | ⟨rfl, hm⟩ | ⟨rfl, hm⟩ | ⟨rfl, hm⟩
    · rw [hm, show nodeD cl 1 l a (ders cl a) = (1, ⟨#[]⟩, .nil) by simp [nodeD]]
      exact sder_1 _ l cl A c w
    · rw [hm, show nodeD cl 2 l a (ders cl a) = (1, ⟨#[]⟩, .nil) by simp [nodeD]]
      exact sder_2 _ l cl A c w
    · by_cases h : l = cl
      · rw [hm, show nodeD cl 3 l a (ders cl a) = (2, ⟨#[]⟩, .nil) by simp [nodeD, h]]
        exact sder_3_yes _ l cl A c w (by rw [h]; simp)
      · rw [hm, show nodeD cl 3 l a (ders cl a) = (1, ⟨#[]⟩, .nil) by simp [nodeD, h]]
        exact sder_3_no _ l cl A c w (byte_ne h)
    · rw [hm, show nodeD cl 4 l a (ders cl a) = (2, ⟨#[]⟩, .nil) by simp [nodeD]]
      exact sder_4 _ l cl A c w
    · obtain ⟨x0, hx0⟩ : ∃ x, a.items[0]? = some x := ⟨_, List.getElem?_eq_getElem (by omega)⟩
      obtain ⟨x1, hx1⟩ : ∃ x, a.items[1]? = some x := ⟨_, List.getElem?_eq_getElem (by omega)⟩
      obtain ⟨g, o, A0, c0, K0, hS0, hok0, hsz0⟩ := kids 0 x0 hx0
      obtain ⟨g1, o1, A1, c1, K1, -⟩ := kids 1 x1 hx1
      have K1' := kid_same K1 K0.at_
      have hN : ∀ W, Below w.heap.size w W → Calls Try.prog 38 #[.agg #[.int .i64 x0.1, .string x0.2.1, .slice A0 x0.2.2.items.length c0], .string ⟨#[]⟩] W (fun e w' => e = .returned (.bool (nulX x0)) ∧ Below W.heap.size W w') := fun W hW =>
        (l4Match_any n B x0.1 x0.2.1 _ x0.2.2 ⟨#[]⟩ W (hS0.mono (hW.mono hB) (Nat.le_refl _)) (Nat.le_trans hB hW.size) hok0 hsz0 (by decide)).mono fun _ _ h => h
      have e : nodeD cl 5 l a (ders cl a) = if nulX x0 then twoX 6 (twoX 5 (nodeD cl x0.1 x0.2.1 x0.2.2 (ders cl x0.2.2)) x1) (nodeD cl x1.1 x1.2.1 x1.2.2 (ders cl x1.2.2)) else twoX 5 (nodeD cl x0.1 x0.2.1 x0.2.2 (ders cl x0.2.2)) x1 := by
        have h0 := ders_at (c := cl) (k := x0.1) (l := x0.2.1) (a := x0.2.2) hx0
        have h1 := ders_at (c := cl) (k := x1.1) (l := x1.2.1) (a := x1.2.2) hx1
        rw [nodeD, h0, h1, getD_of hx0, getD_of hx1]
        rfl
      rw [hm, e]
      cases hb : nulX x0 with
      | true =>
        rw [hb] at hN
        exact sder_5_yes n l cl A c w x0 _ x1 _ g o A0 A1 c0 c1 K0 K1' hN
      | false =>
        rw [hb] at hN
        exact sder_5_no n l cl A c w x0 _ x1 _ g o A0 A1 c0 c1 K0 K1' hN
    · rw [show nodeD cl 6 l a (ders cl a) = (6, ⟨#[]⟩, rowOf (ders cl a)) by simp [nodeD]]
      exact sder_6 n l cl A c a w (by omega) row
    · rw [show nodeD cl 7 l a (ders cl a) = (7, ⟨#[]⟩, rowOf (ders cl a)) by simp [nodeD]]
      exact sder_7 n l cl A c a w (by omega) row
    · obtain ⟨x0, hx0⟩ : ∃ x, a.items[0]? = some x := ⟨_, List.getElem?_eq_getElem (by omega)⟩
      obtain ⟨g, o, A0, c0, K0, -⟩ := kids 0 x0 hx0
      have e : nodeD cl 8 l a (ders cl a) = twoX 5 (nodeD cl x0.1 x0.2.1 x0.2.2 (ders cl x0.2.2)) (8, l, a) := by
        have h0 := ders_at (c := cl) (k := x0.1) (l := x0.2.1) (a := x0.2.2) hx0
        rw [nodeD, h0]
        rfl
      rw [e]
      rw [hm] at hcopy ⊢
      exact sder_8 n l cl A c a w hls x0 _ g o A0 c0 K0 hcopy
    · rw [show nodeD cl 9 l a (ders cl a) = (9, ⟨#[]⟩, rowOf (ders cl a)) by simp [nodeD]]
      exact sder_9 n l cl A c a w (by omega) row
end Go.Proofs.Ytichpiklgkahbaa
