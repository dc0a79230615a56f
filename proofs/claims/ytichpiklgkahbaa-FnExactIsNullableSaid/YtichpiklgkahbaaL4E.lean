/-
  A node more, whole: what the three appends leave. Of no function of the program.
-/
import Derived.Test.YtichpiklgkahbaaL4L
namespace Go.Proofs.Ytichpiklgkahbaa
open Go.RowKit

section
variable {base zb : Nat} {s : ByteArray} {N : Nat}

theorem owns_shape {w : World} {T : TypeId} {size n : Nat} {v : Value} {xs : List Value} (h : w.ownsRow base T size v n xs) : ∃ (A : Option Addr) (c : Nat), v = .slice A n c := by
  rcases h.2 with ⟨h, h0⟩ | ⟨g, cap, cur, h, _⟩
  · exact ⟨none, 0, by rw [h, h0]⟩
  · exact ⟨some ⟨g, 0, none⟩, cap, h⟩
theorem four_comm (w : World) (z g o p q : Nat) (j : Nat) (v x y u : Value) (h : z ≠ g) : (((w.setCell ⟨z, j, none⟩ v).setCell ⟨g, o, none⟩ x).setCell ⟨g, p, none⟩ y).setCell ⟨g, q, none⟩ u = (((w.setCell ⟨g, o, none⟩ x).setCell ⟨g, p, none⟩ y).setCell ⟨g, q, none⟩ u).setCell ⟨z, j, none⟩ v := by
  rw [setCell_comm w ⟨z, j, none⟩ ⟨g, o, none⟩ v x h, setCell_comm _ ⟨z, j, none⟩ ⟨g, p, none⟩ v y h, setCell_comm _ ⟨z, j, none⟩ ⟨g, q, none⟩ v u h]
theorem set_three {xs : List Value} {d : Nat} (hx : xs.length = d * 3) (a b c x y z : Value) : (((xs ++ [a, b, c]).set (d * 3) x).set (d * 3 + 1) y).set (d * 3 + 2) z = xs ++ [x, y, z] := by
  rw [← hx, List.set_append_right _ _ (Nat.le_refl _), List.set_append_right _ _ (Nat.le_add_right _ _), List.set_append_right _ _ (Nat.le_add_right _ _)]
  simp
/-- The row of nodes, longer. -/
theorem nodes_grew {wr w6 : World} {d g' cap' : Nat} {vN x y z a b c : Value} {xsN : List Value} {cs : Array Value} (hx : xsN.length = d * 3) (hbox : wr.heap[zb]? = some (.cells cs 98 (0, 0))) (hz : vN.ownBlock ≠ some zb)
    (hown : w6.ownsRow base 26 3 (.slice (some ⟨g', 0, none⟩) (d + 1) cap') (d + 1) (xsN ++ [a, b, c])) (hk : ∀ g, g < wr.heap.size → vN.ownBlock ≠ some g → w6.heap[g]? = wr.heap[g]?)
    (hnew : ∀ g, (Value.slice (some ⟨g', 0, none⟩) (d + 1) cap').ownBlock = some g → vN.ownBlock = some g ∨ wr.heap.size ≤ g) (hs : wr.heap.size ≤ w6.heap.size) (hstr : w6.os = wr.os ∧ w6.tape = wr.tape ∧ w6.output = wr.output) :
    Grew base zb 1 26 3 cs vN (.slice (some ⟨g', 0, none⟩) (d + 1) cap') (d + 1) (xsN ++ [x, y, z]) wr ((((w6.setCell ⟨g', d * 3, none⟩ x).setCell ⟨g', d * 3 + 1, none⟩ y).setCell ⟨g', d * 3 + 2, none⟩ z).setCell ⟨zb, 1, none⟩ (.slice (some ⟨g', 0, none⟩) (d + 1) cap')) := by
  have h1 := (hown.stored (d * 3) x).1
  have h2 := (h1.stored (d * 3 + 1) y).1
  have h3 := (h2.stored (d * 3 + 2) z).1
  rw [set_three hx] at h3
  have hg' := hnew g' rfl
  refine grew (by decide) hbox hz h3 (fun g hg hne => ?_) hnew (by simpa [World.setCell] using hs) hstr
  have hgn : g ≠ g' := fun e => by
    subst e
    rcases hg' with h | h
    · exact hne h
    · omega
  rw [Below.heap_setCell _ _ _ _ hgn, Below.heap_setCell _ _ _ _ hgn, Below.heap_setCell _ _ _ _ hgn]
  exact hk g hg hne

theorem add_end {k : Int} {l : ByteArray} {u : Value} {a : Fr} {w w3 wr W6 W8 W10 : World} {D D1 : List Ent} {F Fj : Nat → Prop} {va vt vN vA vM vN' vA' vM' : Value} {idx : List Nat} {r : Nat → Nat} {q : Nat} {xsN xsA xsM : List Value} {e : Ent}
    (h1 : L1 base zb s N k l u a w D F a.items.length w3 va D1 Fj idx) (h2 : L2 base q w3 q wr vt r) (hok : (allRow a && nodeOk k l a.items.length) = true)
    (hz : Zs wr base zb s N D1 mem0 vN vA vM xsN xsA xsM) (hFz : ∀ g, OwnZ zb vN vA vM N D1 g → Fj g) (hwf : Wf s.data.toList D1) (ek : e.k = k) (el : e.l = l) (ear : e.ar = idx) (em : e.m = nodeM s.data.toList k l.data.toList (mts s.data.toList a)) (hne : NewE wr base N va vt e) (hin : ∀ g, e.In N g → ¬ Fj g ∧ w.heap.size < g ∧ g < wr.heap.size)
    (G6 : Grew base zb 1 26 3 #[.string s, vN, vA, vM] vN vN' (D1.length + 1) (xsN ++ [.int .i64 k, .string l, u]) wr W6)
    (G8 : Grew base zb 2 111 1 (#[.string s, vN, vA, vM].setIfInBounds 1 vN') vA vA' (D1.length + 1) (xsA ++ [va]) W6 W8)
    (G10 : Grew base zb 3 95 1 ((#[.string s, vN, vA, vM].setIfInBounds 1 vN').setIfInBounds 2 vA') vM vM' (D1.length + 1) (xsM ++ [vt]) W8 W10) :
    ∃ D', Wk base zb s N W10 D' (fun g => F g ∨ (w.heap.size ≤ g ∧ g < W10.heap.size)) ∧ D <+: D' ∧ D'.length = D.length + a.size + 1 ∧ mOf D' (D.length + a.size) = nodeM s.data.toList k l.data.toList (mts s.data.toList a) ∧ Chg F w W10 := by
  subst ek el ear
  have hwz : w.heap.size + 1 ≤ w3.heap.size := lt_of_block h1.box
  have s3 := h2.below.size
  have s6 := G6.size
  have s8 := G8.size
  have s10 := G10.size
  have hlen : D1.length = D.length + a.size := by
    have := h1.len
    unfold szTo at this
    rw [List.take_length, ← szs_items] at this
    exact this
  -- a block of the work's, or a new one, in Fj or not
  have keep : ∀ g, g < wr.heap.size → g ≠ zb → vN.ownBlock ≠ some g → vA.ownBlock ≠ some g → vM.ownBlock ≠ some g → W10.heap[g]? = wr.heap[g]? := fun g hg h1 h2 h3 h4 =>
    (G10.keep g (by omega) h1 h4).trans ((G8.keep g (by omega) h1 h3).trans (G6.keep g hg h1 h2))
  have keepZ : ∀ g, g < wr.heap.size → ¬ OwnZ zb vN vA vM N D1 g → W10.heap[g]? = wr.heap[g]? := fun g hg h => keep g hg (fun e => h (.inl e)) (fun e => h (.inr (.inl e))) (fun e => h (.inr (.inr (.inl e)))) (fun e => h (.inr (.inr (.inr (.inl e)))))
  have nodes10 : W10.ownsRow base 26 3 vN' (D1.length + 1) (xsN ++ [.int .i64 e.k, .string e.l, u]) := by
    have b6 := G6.box
    have b8 := G8.box
    refine G10.keeps (G8.keeps G6.own fun g hg => ⟨fun e => ?_, fun e => ?_⟩) fun g hg => ⟨fun e => ?_, fun e => ?_⟩
    · exact owns_box G6.own b6 (by decide) (e ▸ hg)
    · rcases G6.new g hg with h | h
      · exact owns_apart hz.nodes hz.args (by decide) g e h
      · have := (hz.args.lt g e).2; omega
    · exact owns_box G6.own b6 (by decide) (e ▸ hg)
    · rcases G6.new g hg with h | h
      · exact owns_apart hz.nodes hz.memo (by decide) g e h
      · have := (hz.memo.lt g e).2; omega
  have args10 : W10.ownsRow base 111 1 vA' (D1.length + 1) (xsA ++ [va]) := by
    refine G10.keeps G8.own fun g hg => ⟨fun e => ?_, fun e => ?_⟩
    · exact owns_box G8.own G8.box (by decide) (e ▸ hg)
    · rcases G8.new g hg with h | h
      · exact owns_apart hz.args hz.memo (by decide) g e h
      · have := (hz.memo.lt g e).2; omega
  have hnotZ : ∀ g, e.In N g → ¬ OwnZ zb vN vA vM N D1 g := fun g hg h => (hin g hg).1 (hFz g h)
  have zs : Zs W10 base zb s N (D1 ++ [e]) mem0 vN' vA' vM' (xsN ++ [.int .i64 e.k, .string e.l, u]) (xsA ++ [va]) (xsM ++ [vt]) := by
    refine zs_snoc hz (by omega) (by rw [G10.box]; rfl) nodes10 args10 G10.own (hne.same (by omega) fun g hg => keepZ g (hin g hg).2.2 (hnotZ g hg)) (fun g hg => ?_) hnotZ G6.new (fun g hg => (G8.new g hg).imp id fun h => by omega) (fun g hg => (G10.new g hg).imp id fun h => by omega) (fun g hg => (hin g hg).2.2)
    obtain ⟨_, i2, i3, i4, i5, i6⟩ := hz.ins g hg
    exact keep g i2 i3 i4 i5 i6
  have hms : e.ar.map (mOf D1) = mts s.data.toList a := by
    have hil : e.ar.length = a.items.length := by have := h1.own.1; simpa using this
    apply List.ext_getElem?
    intro x
    rw [List.getElem?_map]
    by_cases hx : x < e.ar.length
    · rw [List.getElem?_eq_getElem hx, List.getElem?_eq_getElem (by rw [mts_len]; omega)]
      have := (h1.ms x _ (List.getElem?_eq_getElem hx)).2
      rw [List.getD_eq_getElem?_getD, List.getElem?_eq_getElem (by rw [mts_len]; omega)] at this
      simp only [Option.map_some, this, Option.getD_some]
    · rw [List.getElem?_eq_none (by omega), List.getElem?_eq_none (by rw [mts_len]; omega)]
      rfl
  have hil : e.ar.length = a.items.length := by have := h1.own.1; simpa using this
  have hwf' : Wf s.data.toList (D1 ++ [e]) := hwf.snoc (fun x hx => by
    obtain ⟨j, hj, rfl⟩ := List.mem_iff_getElem.1 hx
    exact (h1.ms j _ (List.getElem?_eq_getElem hj)).1) (by rw [hil]; rw [Bool.and_eq_true] at hok; exact hok.2) (by rw [em, hms])
  refine ⟨D1 ++ [e], ⟨vN', vA', vM', _, _, _, zs, fun g hg => ?_, hwf'⟩, h1.ext.trans ⟨[e], rfl⟩, by simp; omega, ?_, ?_⟩
  · have hlt := (zs.lt hg).2
    have oldz : OwnZ zb vN vA vM N D1 g → F g ∨ (w.heap.size ≤ g ∧ g < W10.heap.size) := fun h => (h1.fj g (hFz g h)).imp id fun h => ⟨Nat.le_of_lt h, hlt⟩
    rcases hg with h | h | h | h | ⟨n, e', he', hg'⟩
    · exact oldz (.inl h)
    · rcases G6.new g h with h | h
      · exact oldz (.inr (.inl h))
      · exact .inr ⟨by omega, hlt⟩
    · rcases G8.new g h with h | h
      · exact oldz (.inr (.inr (.inl h)))
      · exact .inr ⟨by omega, hlt⟩
    · rcases G10.new g h with h | h
      · exact oldz (.inr (.inr (.inr (.inl h))))
      · exact .inr ⟨by omega, hlt⟩
    · by_cases hn : n < D1.length
      · rw [List.getElem?_append_left hn] at he'
        exact oldz (.inr (.inr (.inr (.inr ⟨n, e', he', hg'⟩))))
      · have h3 := (List.getElem?_eq_some_iff.1 he').1
        simp at h3
        have h4 : n = D1.length := by omega
        subst h4
        simp at he'
        subst he'
        exact .inr ⟨Nat.le_of_lt (hin g hg').2.1, hlt⟩
  · rw [← hlen, mOf_at (e := e) (by simp), em]
  · refine ⟨G10.os.trans (G8.os.trans (G6.os.trans (h2.below.os.trans h1.chg.os))), G10.tape.trans (G8.tape.trans (G6.tape.trans (h2.below.tape.trans h1.chg.tape))), G10.output.trans (G8.output.trans (G6.output.trans (h2.below.output.trans h1.chg.output))), by omega, fun g hgl hgF => ?_⟩
    have hnf : ¬ OwnZ zb vN vA vM N D1 g := fun h => (h1.fj g (hFz g h)).elim hgF (fun h => by omega)
    rw [keepZ g (by omega) hnf, h2.below.block g (by omega)]
    exact h1.chg.block g hgl hgF
end
end Go.Proofs.Ytichpiklgkahbaa
