/-
  What impl.derive answers, at every valid expression.
-/
import Derived.Test.YtichpiklgkahbaaDerIs
import Derived.Test.YtichpiklgkahbaaMatOfs
namespace Go.Proofs.Ytichpiklgkahbaa
open Go.RowKit

theorem ne_bytes {a b : ByteArray} (h : a ≠ b) : (a.toList == b.toList) = false := by
  rw [beq_eq_false_iff_ne]
  intro e
  rw [ByteArray.toList_eq, ByteArray.toList_eq] at e
  exact h (ByteArray.ext (Array.toList_inj.1 e))
theorem depth_item : ∀ {f : Fr} {j : Nat} {x : Nx}, f.items[j]? = some x → x.2.2.depth + 1 ≤ f.depth
  | .nil, j, _, h => by simp [Fr.items] at h
  | .cons k' l' a' r, 0, x, h => by
    simp [Fr.items] at h
    subst h
    simp only [Fr.depth]
    omega
  | .cons k' l' a' r, j + 1, x, h => by
    simp only [Fr.items, List.getElem?_cons_succ] at h
    have := depth_item h
    simp only [Fr.depth]
    omega
theorem valid_of {k : Int} {l : ByteArray} {a : Fr} (hok : (allRow a && nodeOk k l a.items.length) = true) (hs : a.size ≤ 15) (hd : a.depth ≤ 5) : validRx k l a = true := by
  unfold validRx
  have h := (left_size a 15 (by omega)).1.2 (by omega)
  rw [Bool.and_eq_true, Bool.and_eq_true, decide_eq_true_eq, decide_eq_true_eq]
  exact ⟨⟨h, by omega⟩, hok⟩
theorem valid_all {k : Int} {l : ByteArray} {a : Fr} (h : validRx k l a = true) : (allRow a && nodeOk k l a.items.length) = true ∧ a.size ≤ 15 ∧ a.depth ≤ 5 := by
  unfold validRx at h
  rw [Bool.and_eq_true, Bool.and_eq_true, decide_eq_true_eq, decide_eq_true_eq] at h
  have := (left_size a 15 (by omega)).1.1 h.1.1
  exact ⟨h.2, by omega, by omega⟩
theorem item_at {L : List Nx} {j : Nat} {x : Nx} (h : L[j]? = some x) : L.getD j noX = x := by
  rw [List.getD_eq_getElem?_getD, h]
  rfl
theorem kid_eq {P : Program} {dv cp D n : Nat} {cl : ByteArray} {w : World} {A A' : Option Addr} {j c' g o g1 o1 : Nat} {x d : Nx} (h : Kid P dv cp D n cl w A j x d g o A' c') (h1 : A = some ⟨g1, o1, none⟩) : Kid P dv cp D n cl w A j x d g1 o1 A' c' := by
  have := h.at_.symm.trans h1
  cases this
  exact h

theorem implDerive_any (cl : ByteArray) (n : Nat) : ∀ (B : Nat) (k : Int) (l : ByteArray) (u : Value) (a : Fr) (w : World), Sl w B n u a → B ≤ w.heap.size → (allRow a && nodeOk k l a.items.length) = true → a.size ≤ 15 → a.depth ≤ 5 →
    Calls Try.prog 29 #[.agg #[.int .i64 k, .string l, u], .string cl] w (NdT (2 * n + 1) (nodeD cl k l a (ders cl a)) w) := by
  induction n with
  | zero => intro B k l u a w h; exact h.zero.elim
  | succ n ih =>
    intro B k l u a w hS hB hok hsz hdp
    have hok' := hok
    rw [Bool.and_eq_true] at hok'
    obtain ⟨hall, hnode⟩ := hok'
    obtain ⟨A, c, rfl⟩ := SlP.shape hS
    have kids : ∀ j x, a.items[j]? = some x → ∃ g o A' c', Kid Try.prog 29 53 (2 * n + 1) n cl w A j x (nodeD cl x.1 x.2.1 x.2.2 (ders cl x.2.2)) g o A' c' ∧ Sl w B n (.slice A' x.2.2.items.length c') x.2.2 ∧ (allRow x.2.2 && nodeOk x.1 x.2.1 x.2.2.items.length) = true ∧ x.2.2.size ≤ 15 ∧ x.2.2.depth ≤ 5 := by
      intro j x hx
      obtain ⟨-, A1, c1, hv, hE⟩ := hS.open
      cases hv
      obtain ⟨g, o, hA, hg, k', l', a', u', hx', hls, he, h4⟩ := hE j (List.getElem?_eq_some_iff.1 hx).1
      obtain ⟨A', c', rfl⟩ := SlP.shape h4
      rw [hx'] at hx
      cases hx
      have hok := item_ok hall hx'
      have hsa := Fr.size_item hx'
      have hda := depth_item hx'
      simp only at hda
      exact ⟨g, o, A', c', ⟨hA, Nat.lt_of_lt_of_le hg hB, he, fun W hW => ih B k' l' _ a' W (h4.mono (hW.mono hB) (Nat.le_refl _)) (Nat.le_trans hB hW.size) hok (by omega) (by omega), fun W hW => implCopy_any n B k' l' _ a' W (h4.mono (hW.mono hB) (Nat.le_refl _)) (Nat.le_trans hB hW.size) (by omega), hls, nodeD_l _ _ _ _ _⟩, h4, hok, by show a'.size ≤ 15; omega, by show a'.depth ≤ 5; omega⟩
    have hcopy : ∀ W, Below w.heap.size w W → Calls Try.prog 53 #[.agg #[.int .i64 k, .string l, .slice A a.items.length c]] W (NdT (n + 1) (k, l, a) W) := fun W hW => implCopy_any (n + 1) B k l _ a W (hS.mono (hW.mono hB) (Nat.le_refl _)) (Nat.le_trans hB hW.size) (by omega)
    have row : ∀ j x, a.items[j]? = some x → ∃ g o A' c', Kid Try.prog 29 53 (2 * n + 1) n cl w A j x (nodeD cl x.1 x.2.1 x.2.2 (ders cl x.2.2)) g o A' c' := fun j x hx => by
      obtain ⟨g, o, A', c', h, _⟩ := kids j x hx
      exact ⟨g, o, A', c', h⟩
    have alls : a.items.length ≤ 2 → ∀ W, Below w.heap.size w W → Calls Try.prog 52 #[.slice A a.items.length c, .string cl] W fun e w' => ∃ A' c', e = .returned (.slice A' a.items.length c') ∧ SlT w' (2 * n + 2) (OwnB W w') (.slice A' a.items.length c') (rowOf (ders cl a)) ∧ Below W.heap.size W w' := fun hl2 W hW => deriveAll_any n cl A c a w W hW hl2 row
    show Calls _ _ _ _ (NdT (2 * n + 3) _ _)
    rcases nodeOk_cases hnode with ⟨rfl, hm⟩ | ⟨rfl, hm⟩ | ⟨rfl, hl1, hm⟩ | ⟨rfl, hm⟩ | ⟨rfl, hm⟩ | ⟨rfl, hm⟩ | ⟨rfl, hm⟩ | ⟨rfl, hm⟩ | ⟨rfl, hm⟩
    · rw [show nodeD cl 1 l a (ders cl a) = (1, ⟨#[]⟩, .nil) by simp [nodeD]]
      have h0 := ok_zero hnode (by decide)
      rw [hm]
      exact ider_1 _ l cl A c w h0
    · rw [show nodeD cl 2 l a (ders cl a) = (1, ⟨#[]⟩, .nil) by simp [nodeD]]
      have h0 := ok_zero hnode (by decide)
      rw [hm]
      exact ider_2 _ l cl A c w h0
    · have hlt := ok_letter hnode
      by_cases h : l = cl
      · rw [hm, show nodeD cl 3 l a (ders cl a) = (2, ⟨#[]⟩, .nil) by simp [nodeD, h]]
        exact ider_3_yes _ l cl A c w hlt.1 hlt.2 (by rw [h]; simp)
      · rw [hm, show nodeD cl 3 l a (ders cl a) = (1, ⟨#[]⟩, .nil) by simp [nodeD, h]]
        exact ider_3_no _ l cl A c w hlt.1 hlt.2 (ne_bytes h)
    · rw [show nodeD cl 4 l a (ders cl a) = (2, ⟨#[]⟩, .nil) by simp [nodeD]]
      have h0 := ok_zero hnode (by decide)
      rw [hm]
      exact ider_4 _ l cl A c w h0
    · obtain ⟨x0, hx0⟩ : ∃ x, a.items[0]? = some x := ⟨_, List.getElem?_eq_getElem (by omega)⟩
      obtain ⟨x1, hx1⟩ : ∃ x, a.items[1]? = some x := ⟨_, List.getElem?_eq_getElem (by omega)⟩
      obtain ⟨g, o, A0, c0, K0, hS0, hok0, hsz0, hdp0⟩ := kids 0 x0 hx0
      obtain ⟨g1, o1, A1, c1, K1, -⟩ := kids 1 x1 hx1
      have K1' := kid_eq K1 K0.at_
      have hv0 := valid_of hok0 hsz0 hdp0
      have hN : ∀ W, Below w.heap.size w W → Calls Try.prog 12 #[.agg #[.int .i64 x0.1, .string x0.2.1, .slice A0 x0.2.2.items.length c0]] W (fun e w' => e = .returned (.bool (nulX x0)) ∧ Below W.heap.size W w') := fun W hW =>
        (implNullable_any n B x0.1 x0.2.1 _ x0.2.2 W (hS0.mono (hW.mono hB) (Nat.le_refl _)) (Nat.le_trans hB hW.size) (by omega) K0.lx).mono fun _ _ ⟨h1, h2⟩ => ⟨by rw [h1]; unfold matchRx; rw [hv0]; rfl, h2⟩
      have e : nodeD cl 5 l a (ders cl a) = if nulX x0 then twoX 6 (twoX 5 (nodeD cl x0.1 x0.2.1 x0.2.2 (ders cl x0.2.2)) x1) (nodeD cl x1.1 x1.2.1 x1.2.2 (ders cl x1.2.2)) else twoX 5 (nodeD cl x0.1 x0.2.1 x0.2.2 (ders cl x0.2.2)) x1 := by
        have h0 := ders_at (c := cl) (k := x0.1) (l := x0.2.1) (a := x0.2.2) hx0
        have h1 := ders_at (c := cl) (k := x1.1) (l := x1.2.1) (a := x1.2.2) hx1
        rw [nodeD, h0, h1, item_at hx0, item_at hx1]
        rfl
      have h0 := ok_zero hnode (by decide)
      rw [hm, e]
      refine ider_5 n l cl A c w h0 x0 _ x1 _ g o A0 A1 c0 c1 K0 K1' _ (fun W hW => ?_)
      have up : ∀ {j c' : Nat} {x d : Nx} {A' : Option Addr}, Kid Try.prog 29 53 (2 * n + 1) n cl w A j x d g o A' c' → Kid Try.prog 29 53 (2 * n + 1) n cl W A j x d g o A' c' := fun h =>
        ⟨h.at_, Nat.lt_of_lt_of_le h.lt hW.size, h.el.below hW h.lt, fun V hV => h.der V (hW.trans (hV.mono hW.size)), fun V hV => h.cop V (hW.trans (hV.mono hW.size)), h.lx, h.ld⟩
      have hN' := fun V (hV : Below W.heap.size W V) => hN V (hW.trans (hV.mono hW.size))
      cases hb : nulX x0 with
      | true =>
        rw [hb] at hN'
        exact catf_yes n cl A W x0 _ x1 _ g o A0 A1 c0 c1 (up K0) (up K1') hN'
      | false =>
        rw [hb] at hN'
        exact catf_no n cl A W x0 _ x1 _ g o A0 A1 c0 c1 (up K0) (up K1') hN'
    · rw [show nodeD cl 6 l a (ders cl a) = (6, ⟨#[]⟩, rowOf (ders cl a)) by simp [nodeD]]
      obtain ⟨x0, hx0⟩ : ∃ x, a.items[0]? = some x := ⟨_, List.getElem?_eq_getElem (by omega)⟩
      obtain ⟨x1, hx1⟩ : ∃ x, a.items[1]? = some x := ⟨_, List.getElem?_eq_getElem (by omega)⟩
      obtain ⟨g, o, A0, c0, K0, -⟩ := kids 0 x0 hx0
      obtain ⟨g1, o1, A1, c1, K1, -⟩ := kids 1 x1 hx1
      have h := ider_6 n l cl A c a w (ok_zero hnode (by decide)) hm x0 _ x1 _ g o A0 A1 c0 c1 K0 (kid_eq K1 K0.at_) (alls (by omega))
      rw [hm]
      exact h
    · rw [show nodeD cl 7 l a (ders cl a) = (7, ⟨#[]⟩, rowOf (ders cl a)) by simp [nodeD]]
      obtain ⟨x0, hx0⟩ : ∃ x, a.items[0]? = some x := ⟨_, List.getElem?_eq_getElem (by omega)⟩
      obtain ⟨x1, hx1⟩ : ∃ x, a.items[1]? = some x := ⟨_, List.getElem?_eq_getElem (by omega)⟩
      obtain ⟨g, o, A0, c0, K0, -⟩ := kids 0 x0 hx0
      obtain ⟨g1, o1, A1, c1, K1, -⟩ := kids 1 x1 hx1
      have h := ider_7 n l cl A c a w (ok_zero hnode (by decide)) hm x0 _ x1 _ g o A0 A1 c0 c1 K0 (kid_eq K1 K0.at_) (alls (by omega))
      rw [hm]
      exact h
    · obtain ⟨x0, hx0⟩ : ∃ x, a.items[0]? = some x := ⟨_, List.getElem?_eq_getElem (by omega)⟩
      obtain ⟨g, o, A0, c0, K0, -⟩ := kids 0 x0 hx0
      have e : nodeD cl 8 l a (ders cl a) = twoX 5 (nodeD cl x0.1 x0.2.1 x0.2.2 (ders cl x0.2.2)) (8, l, a) := by
        have h0 := ders_at (c := cl) (k := x0.1) (l := x0.2.1) (a := x0.2.2) hx0
        rw [nodeD, h0]
        rfl
      have h0 := ok_zero hnode (by decide)
      rw [e]
      rw [hm] at hcopy ⊢
      exact ider_8 n l cl A c a w h0 x0 _ g o A0 c0 K0 hcopy
    · rw [show nodeD cl 9 l a (ders cl a) = (9, ⟨#[]⟩, rowOf (ders cl a)) by simp [nodeD]]
      obtain ⟨x0, hx0⟩ : ∃ x, a.items[0]? = some x := ⟨_, List.getElem?_eq_getElem (by omega)⟩
      obtain ⟨g, o, A0, c0, K0, -⟩ := kids 0 x0 hx0
      have h := ider_9 n l cl A c a w (ok_zero hnode (by decide)) hm x0 _ g o A0 c0 K0 (alls (by omega))
      rw [hm]
      exact h
end Go.Proofs.Ytichpiklgkahbaa
