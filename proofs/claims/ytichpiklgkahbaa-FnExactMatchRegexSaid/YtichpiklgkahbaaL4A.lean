/-
  The model's work as it grows: a node more behind the others; what else stands in memory stays. Of no function of the program.
-/
import Derived.Test.YtichpiklgkahbaaL4M
import Derived.Test.YtichpiklgkahbaaMarkRx
import Derived.Laws.MakeOwn
import Derived.Maps.AppendAt
namespace Go.Proofs.Ytichpiklgkahbaa
open Go.RowKit

def OwnZ (zb : Nat) (vN vA vM : Value) (N : Nat) (D : List Ent) (g : Nat) : Prop := g = zb ∨ vN.ownBlock = some g ∨ vA.ownBlock = some g ∨ vM.ownBlock = some g ∨ InD N D g
def mem0 : Mem := fun _ _ _ => 0
section
variable {base zb : Nat} {s : ByteArray} {N : Nat}

theorem Zs.lt {w : World} {D : List Ent} {mem : Mem} {vN vA vM : Value} {xsN xsA xsM : List Value} (h : Zs w base zb s N D mem vN vA vM xsN xsA xsM) {g : Nat} (hg : OwnZ zb vN vA vM N D g) : base ≤ g ∧ g < w.heap.size := by
  rcases hg with rfl | hg | hg | hg | hg
  · exact ⟨h.ge, lt_of_block h.box⟩
  · exact h.nodes.lt g hg
  · exact h.args.lt g hg
  · exact h.memo.lt g hg
  · obtain ⟨h1, h2, _⟩ := h.ins g hg
    exact ⟨h1, h2⟩
theorem Zs.at {w w' : World} {D : List Ent} {mem : Mem} {vN vA vM : Value} {xsN xsA xsM : List Value} (h : Zs w base zb s N D mem vN vA vM xsN xsA xsM) (hz : w.heap.size ≤ w'.heap.size) (hs : ∀ g, OwnZ zb vN vA vM N D g → w'.heap[g]? = w.heap[g]?) :
    Zs w' base zb s N D mem vN vA vM xsN xsA xsM :=
  ⟨(hs _ (.inl rfl)).trans h.box, h.ge, owns_same h.nodes fun b hb => hs b (.inr (.inl hb)), owns_same h.args fun b hb => hs b (.inr (.inr (.inl hb))), owns_same h.memo fun b hb => hs b (.inr (.inr (.inr (.inl hb)))), fun n e he => by
    obtain ⟨h1, h2, va, vm, h3, h4, h5⟩ := h.el n e he
    exact ⟨h1, h2, va, vm, h3, h4, h5.same fun g hg => hs g (.inr (.inr (.inr (.inr ⟨n, e, he, hg⟩))))⟩, fun g hg => by
    obtain ⟨i1, i2, i3⟩ := h.ins g hg
    exact ⟨i1, Nat.lt_of_lt_of_le i2 hz, i3⟩, h.apart⟩

/-- The work, its tables empty, in blocks of F. -/
def Wk (base zb : Nat) (s : ByteArray) (N : Nat) (w : World) (D : List Ent) (F : Nat → Prop) : Prop :=
  ∃ vN vA vM xsN xsA xsM, Zs w base zb s N D mem0 vN vA vM xsN xsA xsM ∧ (∀ g, OwnZ zb vN vA vM N D g → F g) ∧ Wf s.data.toList D
theorem Wk.keep {w w' : World} {D : List Ent} {F : Nat → Prop} (h : Wk base zb s N w D F) (hz : w.heap.size ≤ w'.heap.size) (hs : ∀ g, F g → g < w.heap.size → w'.heap[g]? = w.heap[g]?) : Wk base zb s N w' D F := by
  obtain ⟨vN, vA, vM, xsN, xsA, xsM, h1, h2, h3⟩ := h
  exact ⟨vN, vA, vM, xsN, xsA, xsM, h1.at hz fun g hg => hs g (h2 g hg) (h1.lt hg).2, h2, h3⟩
theorem Wk.more {w : World} {D : List Ent} {F F' : Nat → Prop} (h : Wk base zb s N w D F) (hF : ∀ g, F g → F' g) : Wk base zb s N w D F' := by
  obtain ⟨vN, vA, vM, xsN, xsA, xsM, h1, h2, h3⟩ := h
  exact ⟨vN, vA, vM, xsN, xsA, xsM, h1, fun g hg => hF g (h2 g hg), h3⟩

theorem ext_at {D D' : List Ent} (h : D <+: D') {n : Nat} {e : Ent} (he : D[n]? = some e) : D'[n]? = some e := by
  obtain ⟨t, rfl⟩ := h
  rw [List.getElem?_append_left (List.getElem?_eq_some_iff.1 he).1]
  exact he
theorem ext_m {D D' : List Ent} (h : D <+: D') {x : Nat} (hx : x < D.length) : mOf D' x = mOf D x := by
  have he : D[x]? = some D[x] := List.getElem?_eq_getElem hx
  rw [mOf_at he, mOf_at (ext_at h he)]
theorem Wf.snoc {sl : List UInt8} {D : List Ent} {e : Ent} (h : Wf sl D) (h1 : ∀ x ∈ e.ar, x < D.length) (h2 : nodeOk e.k e.l e.ar.length = true) (h3 : e.m = nodeM sl e.k e.l.data.toList (e.ar.map (mOf D))) : Wf sl (D ++ [e]) := by
  have hext : D <+: D ++ [e] := ⟨[e], rfl⟩
  intro n e' he'
  by_cases hn : n < D.length
  · rw [List.getElem?_append_left hn] at he'
    obtain ⟨a1, a2, a3⟩ := h n e' he'
    refine ⟨a1, a2, a3.trans ?_⟩
    congr 1
    exact List.map_congr_left fun x hx => (ext_m hext (Nat.lt_trans (a1 x hx) hn)).symm
  · have : n = D.length := by
      have := (List.getElem?_eq_some_iff.1 he').1
      simp at this
      omega
    subst this
    simp at he'
    subst he'
    refine ⟨h1, h2, h3.trans ?_⟩
    congr 1
    exact List.map_congr_left fun x hx => (ext_m hext (h1 x hx)).symm

/-- What the call's own new blocks of a node hold: the row of its arguments, its table, the table's rows. -/
structure NewE (w : World) (base N : Nat) (va vt : Value) (e : Ent) : Prop where
  va : ∃ c, va = .slice (some ⟨e.g, 0, none⟩) e.ar.length c
  vt : ∃ c, vt = .slice (some ⟨e.t, 0, none⟩) (N + 1) c
  args : ∀ (x y : Nat), e.ar[x]? = some y → w.cell? ⟨e.g, x, none⟩ = some (.int .i64 (y : Int))
  tab : ∀ i, i ≤ N → w.cell? ⟨e.t, i, none⟩ = some (.slice (some ⟨e.r i, 0, none⟩) (N + 1) (N + 1))
  rows : ∀ i, i ≤ N → Rw w (e.r i) 3 (N + 1) (fun _ => .int .i64 0)
  inj : ∀ i i', i ≤ N → i' ≤ N → e.r i = e.r i' → i = i'
  ra : ∀ i, i ≤ N → e.r i ≠ e.g ∧ e.r i ≠ e.t
  lo : ∀ g, e.In N g → base ≤ g ∧ g < w.heap.size
theorem NewE.same {w w' : World} {va vt : Value} {e : Ent} (h : NewE w base N va vt e) (hz : w.heap.size ≤ w'.heap.size) (hs : ∀ g, e.In N g → w'.heap[g]? = w.heap[g]?) : NewE w' base N va vt e :=
  ⟨h.va, h.vt, fun x y hx => (World.cell?_of_block (hs _ (.inl rfl))).trans (h.args x y hx), fun i hi => (World.cell?_of_block (hs _ (.inr (.inl rfl)))).trans (h.tab i hi), fun i hi => (h.rows i hi).same (hs _ (.inr (.inr ⟨i, hi, rfl⟩))), h.inj, h.ra, fun g hg => ⟨(h.lo g hg).1, Nat.lt_of_lt_of_le (h.lo g hg).2 hz⟩⟩

/-- THE NODE MORE: the three rows longer by one, the box anew. -/
theorem zs_snoc {w w' : World} {D : List Ent} {vN vA vM vN' vA' vM' va vt u : Value} {xsN xsA xsM : List Value} {e : Ent} (h : Zs w base zb s N D mem0 vN vA vM xsN xsA xsM) (hz : w.heap.size ≤ w'.heap.size)
    (hbox : w'.heap[zb]? = some (.cells #[.string s, vN', vA', vM'] 98 (0, 0)))
    (hN : w'.ownsRow base 26 3 vN' (D.length + 1) (xsN ++ [.int .i64 e.k, .string e.l, u])) (hA : w'.ownsRow base 111 1 vA' (D.length + 1) (xsA ++ [va])) (hM : w'.ownsRow base 95 1 vM' (D.length + 1) (xsM ++ [vt]))
    (hn : NewE w' base N va vt e) (hin : ∀ g, InD N D g → w'.heap[g]? = w.heap[g]?) (hnew : ∀ g, e.In N g → ¬ OwnZ zb vN vA vM N D g)
    (oN : ∀ g, vN'.ownBlock = some g → vN.ownBlock = some g ∨ w.heap.size ≤ g) (oA : ∀ g, vA'.ownBlock = some g → vA.ownBlock = some g ∨ w.heap.size ≤ g) (oM : ∀ g, vM'.ownBlock = some g → vM.ownBlock = some g ∨ w.heap.size ≤ g) (hold : ∀ g, e.In N g → g < w.heap.size) :
    Zs w' base zb s N (D ++ [e]) mem0 vN' vA' vM' (xsN ++ [.int .i64 e.k, .string e.l, u]) (xsA ++ [va]) (xsM ++ [vt]) := by
  have lN : xsN.length = D.length * 3 := h.nodes.1
  have lA : xsA.length = D.length := by simpa using h.args.1
  have lM : xsM.length = D.length := by simpa using h.memo.1
  have split : ∀ {n : Nat} {e' : Ent}, (D ++ [e])[n]? = some e' → (D[n]? = some e' ∧ n < D.length) ∨ (n = D.length ∧ e' = e) := fun {n e'} he' => by
    by_cases hn : n < D.length
    · rw [List.getElem?_append_left hn] at he'
      exact .inl ⟨he', hn⟩
    · have h1 := (List.getElem?_eq_some_iff.1 he').1
      simp at h1
      have h2 : n = D.length := by omega
      subst h2
      simp at he'
      exact .inr ⟨rfl, he'.symm⟩
  refine ⟨hbox, h.ge, by simpa using hN, by simpa using hA, by simpa using hM, fun n e' he' => ?_, fun g hg => ?_, ⟨fun n n' e1 e2 i i' h1 h2 hi hi' hr => ?_, fun n n' e1 e2 i h1 h2 hi => ?_⟩⟩
  · rcases split he' with ⟨he, hn'⟩ | ⟨rfl, rfl⟩
    · obtain ⟨a1, a2, va1, vm1, a3, a4, a5⟩ := h.el n e' he
      refine ⟨?_, ?_, va1, vm1, ?_, ?_, a5.same fun g hg => hin g ⟨n, e', he, hg⟩⟩
      · rw [List.getElem?_append_left (by omega)]; exact a1
      · rw [List.getElem?_append_left (by omega)]; exact a2
      · rw [List.getElem?_append_left (by omega)]; exact a3
      · rw [List.getElem?_append_left (by omega)]; exact a4
    · refine ⟨?_, ?_, va, vt, ?_, ?_, ⟨?_, ?_, fun i hi => hn.rows i hi⟩⟩
      · rw [List.getElem?_append_right (by omega), lN]; simp
      · rw [List.getElem?_append_right (by omega), lN, show D.length * 3 + 1 - D.length * 3 = 1 by omega]; rfl
      · rw [List.getElem?_append_right (by omega), lA]; simp
      · rw [List.getElem?_append_right (by omega), lM]; simp
      · obtain ⟨c, hc⟩ := hn.va
        exact ⟨c, hc, hn.args⟩
      · obtain ⟨c, hc⟩ := hn.vt
        exact ⟨c, hc, hn.tab⟩
  · obtain ⟨n, e', he', hg'⟩ := hg
    rcases split he' with ⟨he, hn'⟩ | ⟨rfl, rfl⟩
    · obtain ⟨i1, i2, i3, i4, i5, i6⟩ := h.ins g ⟨n, e', he, hg'⟩
      refine ⟨i1, Nat.lt_of_lt_of_le i2 hz, i3, fun e => ?_, fun e => ?_, fun e => ?_⟩
      · exact (oN g e).elim i4 (fun h => by omega)
      · exact (oA g e).elim i5 (fun h => by omega)
      · exact (oM g e).elim i6 (fun h => by omega)
    · have hg2 := hnew g hg'
      have hlt := hold g hg'
      refine ⟨(hn.lo g hg').1, (hn.lo g hg').2, fun e => hg2 (.inl e), fun e => ?_, fun e => ?_, fun e => ?_⟩
      · exact (oN g e).elim (fun h => hg2 (.inr (.inl h))) (fun h => by omega)
      · exact (oA g e).elim (fun h => hg2 (.inr (.inr (.inl h)))) (fun h => by omega)
      · exact (oM g e).elim (fun h => hg2 (.inr (.inr (.inr (.inl h))))) (fun h => by omega)
  · rcases split h1 with ⟨k1, _⟩ | ⟨rfl, rfl⟩ <;> rcases split h2 with ⟨k2, _⟩ | ⟨rfl, rfl⟩
    · exact h.apart.rows n n' e1 e2 i i' k1 k2 hi hi' hr
    · exact absurd (.inr (.inr (.inr (.inr ⟨n, e1, k1, .inr (.inr ⟨i, hi, hr.symm⟩)⟩)))) (hnew (e2.r i') (.inr (.inr ⟨i', hi', rfl⟩)))
    · exact absurd (.inr (.inr (.inr (.inr ⟨n', e2, k2, .inr (.inr ⟨i', hi', hr⟩)⟩)))) (hnew (e1.r i) (.inr (.inr ⟨i, hi, rfl⟩)))
    · exact ⟨rfl, hn.inj i i' hi hi' hr⟩
  · rcases split h1 with ⟨k1, _⟩ | ⟨rfl, rfl⟩ <;> rcases split h2 with ⟨k2, _⟩ | ⟨rfl, rfl⟩
    · exact h.apart.args n n' e1 e2 i k1 k2 hi
    · exact ⟨fun e => hnew e2.g (.inl rfl) (.inr (.inr (.inr (.inr ⟨n, e1, k1, .inr (.inr ⟨i, hi, e.symm⟩)⟩)))), fun e => hnew e2.t (.inr (.inl rfl)) (.inr (.inr (.inr (.inr ⟨n, e1, k1, .inr (.inr ⟨i, hi, e.symm⟩)⟩))))⟩
    · exact ⟨fun e => hnew (e1.r i) (.inr (.inr ⟨i, hi, rfl⟩)) (.inr (.inr (.inr (.inr ⟨n', e2, k2, .inl e⟩)))), fun e => hnew (e1.r i) (.inr (.inr ⟨i, hi, rfl⟩)) (.inr (.inr (.inr (.inr ⟨n', e2, k2, .inr (.inl e)⟩))))⟩
    · exact hn.ra i hi
end
end Go.Proofs.Ytichpiklgkahbaa
