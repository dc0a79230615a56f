/-
  Texts of one proof, one behind the other.
-/
import Derived.Test.YtppliiingoonlaaRows
import Derived.ProofKit
import Derived.OpenShut
import Derived.LaidMore
import Derived.Lay
import Derived.Stop.Joined
import Derived.Stop.LaidErr
import Derived.Below
import Derived.ChangeSame
import Derived.Lib.LaidTab
import Derived.Carry
import Derived.WalkKit
import Derived.WalkSpells
import Derived.WalkLawsBesides
import Derived.Lib.Hide
import Derived.Deep.Slices
import Derived.Outline
import Derived.KernelRfl
import Derived.Lib.Bytealg
import Derived.Deep.QuietTactic
import Derived.BigQuiet
import Derived.Deep.RegionHeld3
import Derived.RegionTactic
import Derived.Lib.Strings
import Derived.Lib.IndexLaws
import Derived.Lib.ItoaNum
import Derived.Lib.ItoaLen
import Derived.Lib.ItoaMem
import Derived.Lib.AtoiTie
import Derived.Lib.Join

/-
  Small steps that every row of this seat takes: from 'the call returned true and nothing that was there has turned' to the row's last step.
-/
namespace Go.Proofs.Ytppliiingoonlaa
open Go.ChangeShapes Go.WideShapes Go.ChangeAt Go.RowKit
theorem own : ownKnob Try.prog.godebug = none := by kernel_rfl

/-- A LAW's LAST STEP: it answered true; behind the call nothing that was there has turned; the arguments read as they did. -/
theorem law_post {H : Type} {enc : TypeId × Value → H} {P : Program} {f : Func} {s : ChangeSpec} {W W' : World} {args : Array Value} {ds : List (DataW H)} {before : List MemPlace} {t : TypeId}
    (hW : DataW.Whole enc P f.params.toList s.vars false W args.toList ds [] before) (hv : s.vars = []) (ht : f.resultTypes = #[t]) (hu : P.underlying t = some .bool)
    (hs : s.fn H ds = { results := [.lit (.bool true)], args := ds })
    (hargs : ∀ sp : Nat → Bool, (∀ p ∈ before, sp p.block = true) → DataW.TrodAll enc P W' 0 sp true f.params.toList args.toList ds before)
    (hb : Below W.heap.size W W') : s.post enc P f false true false false W args (.bool true) W' := by
  have hlt : ∀ p ∈ before, p.block < W.heap.size := fun p hp => hW.lt p hp
  have hold : ∀ p ∈ before, (fun b => decide (b < W.heap.size)) p.block = true := fun p hp => by simpa using hlt p hp
  have hds : s.fn H (ds ++ []) = { results := [.lit (.bool true)], args := ds } := by rw [List.append_nil]; exact hs
  refine ⟨ds, [], before, [], before, [], hW, ?_, ?_, ?_, World.keptBut_mono (fun p hp => ⟨hp, Or.inr (by simpa using hp)⟩) (hb.frame (· ∈ before)), fun h => by cases h⟩
  · rw [hds, ht]
    exact trodAll_mk1 (shut_bool hu true)
  · rw [hds]
    exact hargs _ hold
  · rw [hds, hv]
    rfl
end Go.Proofs.Ytppliiingoonlaa

/-
  A law's last step for arguments of every readable type: below the heap's old size nothing has turned, so all arguments read as they did.
-/
namespace Go.Proofs.Ytppliiingoonlaa
open Go.ChangeShapes Go.WideShapes Go.ChangeAt Go.RowKit
theorem trodAll_below {H : Type} {enc : TypeId × Value → H} {P : Program} (hl : laidOutB P = true) {W W' : World} (hb : Below W.heap.size W W') :
    ∀ {ts : List TypeId} {vs : List Value} {ds : List (DataW H)} {ps : List MemPlace}, (∀ t ∈ ts, P.readableRec t = true ∧ t < P.types.size) → (∀ x ∈ ps, x.block < W.heap.size) →
      DataW.TrodAll enc P W 0 (fun _ => true) true ts vs ds ps → DataW.TrodAll enc P W' 0 (fun b => decide (b < W.heap.size)) true ts vs ds ps
  | [], [], [], _, _, _, h => h
  | t :: _, _ :: _, _ :: _, _, hT, hlt, ⟨p, q, h1, h2, e⟩ =>
    ⟨p, q, Below.trod hl (hT t (List.mem_cons.2 (Or.inl rfl))).1 (hT t (List.mem_cons.2 (Or.inl rfl))).2 h1 hb (fun x hx => hlt x (by rw [e]; exact List.mem_append_left _ hx)),
      trodAll_below hl hb (fun u hu => hT u (List.mem_cons.2 (Or.inr hu))) (fun x hx => hlt x (by rw [e]; exact List.mem_append_right _ hx)) h2, e⟩

theorem laidOut : laidOutB Try.prog = true := by kernel_rfl

theorem law_end {H : Type} {enc : TypeId × Value → H} {f : Func} {s : ChangeSpec} {W W' : World} {args : Array Value} {ds : List (DataW H)} {p : List MemPlace}
    (hA : DataW.TrodAll enc Try.prog W 0 (fun _ => true) true f.params.toList args.toList ds p) (hz : W.noneFrozen p) (hv : s.vars = []) (ht : f.resultTypes = #[4])
    (hts : (f.params.toList.all fun t => Try.prog.readableRec t && decide (t < Try.prog.types.size)) = true)
    (hs : s.fn H ds = { results := [.lit (.bool true)], args := ds })
    (hb : Below W.heap.size W W') : s.post enc Try.prog f false true false false W args (.bool true) W' := by
  have hW : DataW.Whole enc Try.prog f.params.toList s.vars false W args.toList ds [] p := ⟨p, [], hA, by rw [hv]; rfl, by simp, hz, fun h => by cases h⟩
  have hlt : ∀ x ∈ p, x.block < W.heap.size := fun x hx => hW.lt x hx
  have hT : ∀ t ∈ f.params.toList, Try.prog.readableRec t = true ∧ t < Try.prog.types.size := fun t ht => by
    have := List.all_eq_true.1 hts t ht
    simpa using this
  have hargs := trodAll_below laidOut hb hT hlt hA
  have hds : s.fn H (ds ++ []) = { results := [.lit (.bool true)], args := ds } := by rw [List.append_nil]; exact hs
  refine ⟨ds, [], p, [], p, [], hW, ?_, ?_, ?_, World.keptBut_mono (fun x hx => ⟨hx, Or.inr (by simpa using hx)⟩) (hb.frame (· ∈ p)), fun h => by cases h⟩
  · rw [hds, ht]
    exact trodAll_mk1 (shut_bool Try.underlying4 true)
  · rw [hds]
    exact hargs
  · rw [hds, hv]
    rfl
end Go.Proofs.Ytppliiingoonlaa

/-
  Expressions as a forest; what it means that a slice of them lies in old memory. Of no function of the program.
-/
namespace Go.Proofs.Ytppliiingoonlaa
open Go.RowKit
/-- A row of expressions: the first one's kind, letter and parts; the rest of the row. -/
inductive Fr where
  | nil : Fr
  | cons (k : Int) (l : ByteArray) (a r : Fr) : Fr
  deriving DecidableEq
instance : Inhabited Fr := ⟨.nil⟩
/-- The expressions of a row, one by one. -/
def Fr.items : Fr → List (Int × ByteArray × Fr)
  | .nil => []
  | .cons k l a r => (k, l, a) :: r.items
/-- How many nodes there are. -/
def Fr.size : Fr → Nat
  | .nil => 0
  | .cons _ _ a r => a.size + r.size + 1
theorem Fr.size_item : ∀ {f : Fr} {j : Nat} {k : Int} {l : ByteArray} {a : Fr}, f.items[j]? = some (k, l, a) → a.size < f.size
  | .nil, j, _, _, _, h => by simp [items] at h
  | .cons k' l' a' r, 0, k, l, a, h => by
    simp [items] at h
    obtain ⟨_, _, rfl⟩ := h
    simp [size]
    omega
  | .cons k' l' a' r, j + 1, k, l, a, h => by
    simp [items] at h
    have := size_item h
    simp [size]
    omega
theorem Fr.len_size : ∀ f : Fr, f.items.length ≤ f.size
  | .nil => Nat.le_refl _
  | .cons _ _ a r => by
    have := len_size r
    simp [items, size]
    omega

theorem below_draws {B : Nat} {a w : World} (h : Below B a w) (n : Nat) : Below B a (w.drewN n) := ⟨h.os, h.tape, h.output, h.size, h.block⟩
/-- Place o of block g, and the two behind it, hold an expression's kind, letter and parts. -/
def ElAt (w : World) (g o : Nat) (k : Int) (l : ByteArray) (u : Value) : Prop :=
  w.cell? ⟨g, o, none⟩ = some (.int .i64 k) ∧ w.cell? ⟨g, o + 1, none⟩ = some (.string l) ∧ w.cell? ⟨g, o + 2, none⟩ = some u
theorem ElAt.below {w w' : World} {B g o : Nat} {k : Int} {l : ByteArray} {u : Value} (h : ElAt w g o k l u) (hb : Below B w w') (hg : g < B) : ElAt w' g o k l u :=
  ⟨(hb.cell (p := ⟨g, o, none⟩) hg).trans h.1, (hb.cell (p := ⟨g, o + 1, none⟩) hg).trans h.2.1, (hb.cell (p := ⟨g, o + 2, none⟩) hg).trans h.2.2⟩
theorem ElAt.same {w w' : World} {g o : Nat} {k : Int} {l : ByteArray} {u : Value} (h : ElAt w g o k l u) (hs : w'.heap[g]? = w.heap[g]?) : ElAt w' g o k l u :=
  ⟨(World.cell?_of_block (a := ⟨g, o, none⟩) hs).trans h.1, (World.cell?_of_block (a := ⟨g, o + 1, none⟩) hs).trans h.2.1, (World.cell?_of_block (a := ⟨g, o + 2, none⟩) hs).trans h.2.2⟩
/-- A slice holds the row f, in blocks of which S speaks; the number bounds the depth. -/
def SlP (w : World) (S : Nat → Prop) : Nat → Value → Fr → Prop
  | 0, _, _ => False
  | n + 1, v, f => f.items.length ≤ 9223372036854775807 ∧ ((f.items.length = 0 ∧ ∃ A c, v = .slice A 0 c) ∨ ∃ g o c, v = .slice (some ⟨g, o, none⟩) f.items.length c ∧ S g ∧
      ∀ j k l a, f.items[j]? = some (k, l, a) → l.size ≤ 9223372036854775807 ∧ ∃ u, ElAt w g (o + j * 3) k l u ∧ SlP w S n u a)
theorem SlP.mono {w w' : World} {S S' : Nat → Prop} (hs : ∀ g, S g → w'.heap[g]? = w.heap[g]?) (hS : ∀ g, S g → S' g) : ∀ {n : Nat} {v : Value} {f : Fr}, SlP w S n v f → SlP w' S' n v f
  | 0, _, _, h => h
  | n + 1, v, f, ⟨hl, h⟩ => by
    refine ⟨hl, ?_⟩
    rcases h with h | ⟨g, o, c, hv, hg, hc⟩
    · exact .inl h
    · refine .inr ⟨g, o, c, hv, hS g hg, fun j k l a hj => ?_⟩
      obtain ⟨hl', u, he, h4⟩ := hc j k l a hj
      exact ⟨hl', u, he.same (hs g hg), h4.mono hs hS⟩
theorem SlP.more {w : World} {S : Nat → Prop} : ∀ {n : Nat} {v : Value} {f : Fr}, SlP w S n v f → SlP w S (n + 1) v f
  | 0, _, _, h => h.elim
  | n + 1, v, f, ⟨hl, h⟩ => by
    refine ⟨hl, ?_⟩
    rcases h with h | ⟨g, o, c, hv, hg, hc⟩
    · exact .inl h
    · refine .inr ⟨g, o, c, hv, hg, fun j k l a hj => ?_⟩
      obtain ⟨hs, u, he, h4⟩ := hc j k l a hj
      exact ⟨hs, u, he, h4.more⟩
theorem SlP.shape {w : World} {S : Nat → Prop} : ∀ {n : Nat} {v : Value} {f : Fr}, SlP w S n v f → ∃ A c, v = .slice A f.items.length c
  | 0, _, _, h => h.elim
  | n + 1, v, f, ⟨_, h⟩ => by
    rcases h with ⟨h0, A, c, hv⟩ | ⟨g, o, c, hv, _⟩
    · exact ⟨A, c, by rw [hv, h0]⟩
    · exact ⟨_, c, hv⟩
/-- .. in blocks below B. -/
def Sl (w : World) (B : Nat) (n : Nat) (v : Value) (f : Fr) : Prop := SlP w (fun g => g < B) n v f
theorem Sl.mono {w w' : World} {B B' : Nat} (hb : Below B w w') (hB : B ≤ B') {n : Nat} {v : Value} {f : Fr} (h : Sl w B n v f) : Sl w' B' n v f :=
  SlP.mono (fun g hg => hb.block g hg) (fun _ hg => Nat.lt_of_lt_of_le hg hB) h
theorem Sl.zero {w : World} {B : Nat} {v : Value} {f : Fr} (h : Sl w B 0 v f) : False := h
/-- The slice's shape, and what stands at each place. -/
theorem Sl.open {w : World} {B n : Nat} {v : Value} {f : Fr} (h : Sl w B (n + 1) v f) : f.items.length ≤ 9223372036854775807 ∧ ∃ A c, v = .slice A f.items.length c ∧
    ∀ j, j < f.items.length → ∃ g o, A = some ⟨g, o, none⟩ ∧ g < B ∧ ∃ k l a u, f.items[j]? = some (k, l, a) ∧ l.size ≤ 9223372036854775807 ∧ ElAt w g (o + j * 3) k l u ∧ Sl w B n u a := by
  obtain ⟨hl, h⟩ := h
  refine ⟨hl, ?_⟩
  rcases h with ⟨h0, A, c, hv⟩ | ⟨g, o, c, hv, hg, hc⟩
  · exact ⟨A, c, by rw [hv, h0], fun j hj => by omega⟩
  · refine ⟨_, c, hv, fun j hj => ⟨g, o, rfl, hg, ?_⟩⟩
    obtain ⟨x, hx⟩ : ∃ x, f.items[j]? = some x := ⟨_, List.getElem?_eq_getElem hj⟩
    obtain ⟨k, l, a⟩ := x
    obtain ⟨hs, u, he, h4⟩ := hc j k l a hx
    exact ⟨k, l, a, u, hx, hs, he, h4⟩

/-- The depth of the deepest one. -/
def Fr.depth : Fr → Nat
  | .nil => 0
  | .cons _ _ a r => max (a.depth + 1) r.depth
end Go.Proofs.Ytppliiingoonlaa

/-
  What spec.l3Depth answers: the depth.
  What spec.l3Left answers: what is left when a tree's nodes are taken from a number.
-/
namespace Go.Proofs.Ytppliiingoonlaa
open Go.RowKit
/-- The deepest of the first j, and of all. -/
def deepest (L : List (Int × ByteArray × Fr)) : Nat := L.foldr (fun x n => max (x.2.2.depth + 1) n) 0
theorem depth_items : ∀ f : Fr, f.depth = deepest f.items
  | .nil => rfl
  | .cons _ _ a r => by
    simp only [Fr.depth, Fr.items, deepest, List.foldr_cons]
    rw [depth_items r]
    rfl
theorem deepest_snoc : ∀ (L : List (Int × ByteArray × Fr)) (x : Int × ByteArray × Fr), deepest (L ++ [x]) = max (deepest L) (x.2.2.depth + 1)
  | [], x => by simp [deepest]
  | y :: r, x => by
    have := deepest_snoc r x
    simp only [deepest, List.cons_append, List.foldr_cons] at this ⊢
    rw [this]
    omega

theorem depth_le : ∀ f : Fr, f.depth ≤ f.size
  | .nil => Nat.le_refl _
  | .cons _ _ a r => by
    have := depth_le a
    have := depth_le r
    simp only [Fr.depth, Fr.size]
    omega
theorem deepest_take : ∀ (L : List (Int × ByteArray × Fr)) (j : Nat), deepest (L.take j) ≤ deepest L
  | _, 0 => Nat.zero_le _
  | [], _ + 1 => Nat.le_refl _
  | x :: r, j + 1 => by
    have := deepest_take r j
    simp only [deepest, List.take_succ_cons, List.foldr_cons] at this ⊢
    omega
theorem deepest_le (f : Fr) (j : Nat) : deepest (f.items.take j) ≤ f.size := by
  have h1 := deepest_take f.items j
  rw [← depth_items] at h1
  exact Nat.le_trans h1 (depth_le f)
theorem deepest_step {f : Fr} {j : Nat} {k : Int} {l : ByteArray} {a : Fr} (h : f.items[j]? = some (k, l, a)) : deepest (f.items.take (j + 1)) = max (deepest (f.items.take j)) (a.depth + 1) := by
  have hlt := (List.getElem?_eq_some_iff.1 h).1
  rw [List.take_succ_eq_append_getElem hlt, deepest_snoc]
  rw [(List.getElem?_eq_some_iff.1 h).2]

end Go.Proofs.Ytppliiingoonlaa
namespace Go.Proofs.Ytppliiingoonlaa
open Go.RowKit
/-- What is left of z behind the nodes of a row; it stops where it is below 0. -/
def leftRow : Fr → Int → Int
  | .nil, z => z
  | .cons _ _ a r, z => if z < 0 then z else leftRow r (leftRow a (z - 1))
def leftL : List (Int × ByteArray × Fr) → Int → Int
  | [], z => z
  | x :: r, z => if z < 0 then z else leftL r (leftRow x.2.2 (z - 1))
theorem left_items : ∀ (f : Fr) (z : Int), leftRow f z = leftL f.items z
  | .nil, _ => rfl
  | .cons _ _ a r, z => by
    simp only [leftRow, Fr.items, leftL]
    rw [left_items r]
theorem leftRow_le : ∀ (f : Fr) (z : Int), -1 ≤ z → -1 ≤ leftRow f z ∧ leftRow f z ≤ z
  | .nil, z, h => ⟨h, Int.le_refl _⟩
  | .cons _ _ a r, z, h => by
    simp only [leftRow]
    by_cases hz : z < 0
    · rw [if_pos hz]; exact ⟨h, Int.le_refl _⟩
    · rw [if_neg hz]
      have h1 := leftRow_le a (z - 1) (by omega)
      have h2 := leftRow_le r (leftRow a (z - 1)) h1.1
      omega
theorem leftL_neg (L : List (Int × ByteArray × Fr)) (z : Int) (h : z < 0) : leftL L z = z := by
  cases L with
  | nil => rfl
  | cons x r => simp only [leftL]; rw [if_pos h]
theorem leftL_step {f : Fr} {j : Nat} {k : Int} {l : ByteArray} {a : Fr} (h : f.items[j]? = some (k, l, a)) (z : Int) (hz : ¬ z < 0) : leftL (f.items.drop j) z = leftL (f.items.drop (j + 1)) (leftRow a (z - 1)) := by
  have hlt := (List.getElem?_eq_some_iff.1 h).1
  rw [List.drop_eq_getElem_cons hlt, leftL, if_neg hz, (List.getElem?_eq_some_iff.1 h).2]

end Go.Proofs.Ytppliiingoonlaa

/-
  Slices of strings in rows of the call's own: words and small steps that walks over such rows take.
-/
namespace Go.Proofs.Ytppliiingoonlaa
open Go.RowKit
/-- Strings as a row's cells. -/
def strs (ps : List (List UInt8)) : List Value := ps.map fun p => .string ⟨p.toArray⟩
theorem strs_append (a b : List (List UInt8)) : strs (a ++ b) = strs a ++ strs b := by simp [strs]
theorem strs_length (a : List (List UInt8)) : (strs a).length = a.length := by simp [strs]
theorem strInfo : (Try.prog.info? 9).map (fun i => (i.zero, i.size, i.bytes)) = some (some (.string ⟨#[]⟩), 1, 16) := by kernel_rfl

/-- A slice of strings in a row of its own, from block B on. -/
def SplPost (ps : List (List UInt8)) (w : World) (e : Ending) (w' : World) : Prop :=
  ∃ v, e = .returned v ∧ w'.ownsRow w.heap.size 9 1 v ps.length (strs ps) ∧ Below w.heap.size w w'

theorem newCell (wr : World) (t : TypeId) (x : ByteArray) : ∀ j u, [Value.string x][j]? = some u → (wr.alloc (.cells #[.string x] t)).cell? ((⟨wr.heap.size, 0, none⟩ : Addr).add j) = some u := by
  intro j u hj
  match j, hj with
  | 0, hj => simp at hj; subst hj; simp [Addr.add]
theorem oneCell_str (x : ByteArray) : ∀ u ∈ [Value.string x], u.oneCell' = true := by
  intro u hu
  simp at hu
  subst hu
  rfl
theorem extract_str (s : ByteArray) (f k : Nat) : s.extract f k = ⟨((s.data.toList.drop f).take (k - f)).toArray⟩ := by
  cases s with | mk d =>
  apply ByteArray.ext
  apply Array.toList_inj.1
  simp

/-- One piece more. -/
theorem grow_strs {wr w1 w : World} {B : Nat} {v v' : Value} {P : List (List UInt8)} {x : ByteArray} {p : List UInt8} {o : Obj} (hx : x = ⟨p.toArray⟩) (hown : wr.ownsRow B 9 1 v P.length (strs P)) (hb : Below B w wr) (hB : B ≤ wr.heap.size)
    (hown' : w1.ownsRow B 9 1 v' (P.length + 1) (strs P ++ [.string x])) (hg : (wr.alloc o).grownBy w1 v.ownBlock) :
    w1.ownsRow B 9 1 v' (P ++ [p]).length (strs (P ++ [p])) ∧ Below B w w1 := by
  refine ⟨?_, (hb.alloc hB o).grown hg (by simp; omega) (fun k hk => (hown.lt k hk).1)⟩
  rw [strs_append, List.length_append]
  subst hx
  exact hown'

/-- A row of the call's own: a slice without elements, or a row in a block. -/
theorem own_cases {w : World} {B : Nat} {v : Value} {n : Nat} {xs : List Value} (h : w.ownsRow B 9 1 v n xs) :
    (n = 0 ∧ ∃ A c, v = .slice A 0 c) ∨ ∃ g c, v = .slice (some ⟨g, 0, none⟩) n c := by
  rcases h.2 with ⟨rfl, h0⟩ | ⟨g, cap, cur, rfl, _⟩
  · exact .inl ⟨h0, none, 0, rfl⟩
  · exact .inr ⟨g, cap, rfl⟩
/-- A row of the call's own, from an earlier block on. -/
theorem own_lower {w : World} {B B' n : Nat} {e : TypeId} {size : Nat} {v : Value} {xs : List Value} (h : w.ownsRow B e size v n xs) (hB : B' ≤ B) : w.ownsRow B' e size v n xs := by
  refine ⟨h.1, ?_⟩
  rcases h.2 with h0 | ⟨g, cap, cur, h1, h2, h3⟩
  · exact .inl h0
  · exact .inr ⟨g, cap, cur, h1, Nat.le_trans hB h2, h3⟩
theorem grown_of_below {w w' : World} (h : Below w.heap.size w w') (row : Option Nat) : w.grownBy w' row := ⟨h.os, h.tape, h.output, h.size, fun k hk _ => h.block k hk⟩
theorem grown_trans {a b c : World} {row : Option Nat} (h : a.grownBy b row) (k : b.grownBy c row) : a.grownBy c row :=
  ⟨k.os.trans h.os, k.tape.trans h.tape, k.output.trans h.output, Nat.le_trans h.size k.size, fun i hi hne => (k.block i (Nat.lt_of_lt_of_le hi h.size) hne).trans (h.block i hi hne)⟩
/-- A row of the call's own over calls that turn nothing old, and over a writing into another block. -/
theorem owns_below {w w' : World} {B : Nat} {e : TypeId} {size n : Nat} {v : Value} {xs : List Value} (h : w.ownsRow B e size v n xs) (hb : Below w.heap.size w w') : w'.ownsRow B e size v n xs :=
  h.kept (grown_of_below hb none) (by cases hv : v.ownBlock <;> simp)
end Go.Proofs.Ytppliiingoonlaa

/-
  Plain facts on words over three letters, of no program: all words of a length, the next word, the order; each word is followed by its next one.
-/
namespace Go.Proofs.Ytppliiingoonlaa
def letters : List UInt8 := [97, 98, 99]
/-- All words of n letters, in order. -/
def wordsOf : Nat → List (List UInt8)
  | 0 => [[]]
  | n + 1 => (wordsOf n).flatMap fun w => letters.map fun b => w ++ [b]
/-- All words of at most n letters. -/
def wordsTo : Nat → List (List UInt8)
  | 0 => wordsOf 0
  | n + 1 => wordsTo n ++ wordsOf (n + 1)
def isLetter (b : UInt8) : Bool := decide (97 ≤ b.toNat) && decide (b.toNat ≤ 99)
def isW (l : List UInt8) : Bool := l.all isLetter && decide (l.length ≤ 30)
/-- The next word, the last letter ahead. -/
def bump : List UInt8 → Option (List UInt8)
  | [] => none
  | b :: r => if b.toNat < 99 then some (UInt8.ofNat (b.toNat + 1) :: r) else (bump r).map (97 :: ·)
def nextW (l : List UInt8) : List UInt8 :=
  if isW l then
    match bump l.reverse with
    | some r => r.reverse
    | none => if l.length + 1 ≤ 30 then List.replicate (l.length + 1) 97 else []
  else []
/-- The order: shorter first, then byte by byte. -/
def lessB : List UInt8 → List UInt8 → Bool
  | [], [] => false
  | [], _ :: _ => true
  | _ :: _, [] => false
  | a :: r, b :: s => if a.toNat < b.toNat then true else if b.toNat < a.toNat then false else lessB r s
def cmpW (a b : List UInt8) : Int :=
  if a.length < b.length then -1 else if b.length < a.length then 1 else if lessB a b then -1 else if lessB b a then 1 else 0

theorem lessB_asymm : ∀ a b, lessB a b = true → lessB b a = false
  | [], [], h => by simp [lessB] at h
  | [], _ :: _, _ => rfl
  | _ :: _, [], h => by simp [lessB] at h
  | a :: r, b :: s, h => by
    unfold lessB at h ⊢
    by_cases h1 : a.toNat < b.toNat
    · rw [if_neg (by omega), if_pos h1]
    · rw [if_neg h1] at h
      by_cases h2 : b.toNat < a.toNat
      · rw [if_pos h2] at h
        cases h
      · rw [if_neg h2] at h
        rw [if_neg h2, if_neg h1]
        exact lessB_asymm r s h
theorem less_eq : ∀ a b, Op.bytesLess a b = lessB a b
  | [], [] => rfl
  | [], _ :: _ => rfl
  | _ :: _, [] => rfl
  | a :: r, b :: s => by
    unfold Op.bytesLess lessB
    rw [less_eq r s]
    by_cases h1 : a.toNat < b.toNat
    · rw [if_pos h1]
      simp [UInt8.lt_iff_toNat_lt, h1]
    · rw [if_neg h1]
      by_cases h2 : b.toNat < a.toNat
      · rw [if_pos h2]
        have hne : a ≠ b := fun e => by rw [e] at h2; omega
        simp [UInt8.lt_iff_toNat_lt, h1, hne]
      · rw [if_neg h2]
        have he : a = b := UInt8.toNat_inj.1 (by omega)
        subst he
        simp
theorem lessB_total : ∀ a b, lessB a b = false → lessB b a = false → a = b
  | [], [], _, _ => rfl
  | [], _ :: _, h, _ => by simp [lessB] at h
  | _ :: _, [], _, h => by simp [lessB] at h
  | a :: r, b :: s, h, h' => by
    unfold lessB at h h'
    by_cases h1 : a.toNat < b.toNat
    · rw [if_pos h1] at h; cases h
    · by_cases h2 : b.toNat < a.toNat
      · rw [if_pos h2] at h'; cases h'
      · rw [if_neg h1, if_neg h2] at h
        rw [if_neg h2, if_neg h1] at h'
        have he : a = b := UInt8.toNat_inj.1 (by omega)
        rw [he, lessB_total r s h h']
theorem cmpW_neg (a b : List UInt8) : cmpW a b = 0 - cmpW b a := by
  unfold cmpW
  by_cases h1 : a.length < b.length
  · rw [if_pos h1, if_neg (by omega), if_pos h1]
    rfl
  · rw [if_neg h1]
    by_cases h2 : b.length < a.length
    · rw [if_pos h2, if_pos h2]
      rfl
    · rw [if_neg h2, if_neg h2, if_neg h1]
      cases ha : lessB a b with
      | true => rw [lessB_asymm a b ha]; rfl
      | false =>
        cases hb : lessB b a with
        | true => rfl
        | false => rfl

/-- Each word of the list comes before the one behind it, and is followed by it. -/
def stepsOk : List (List UInt8) → Bool
  | a :: b :: r => decide (cmpW a b = -1) && (nextW a == b) && stepsOk (b :: r)
  | _ => true
theorem stepsOk_at : ∀ (l : List (List UInt8)) (k : Nat) (a b : List UInt8), stepsOk l = true → l[k]? = some a → l[k + 1]? = some b → cmpW a b = -1 ∧ nextW a = b
  | x :: y :: r, 0, a, b, h, ha, hb => by
    simp at ha hb
    subst ha hb
    simp only [stepsOk, Bool.and_eq_true, decide_eq_true_eq, beq_iff_eq] at h
    exact ⟨h.1.1, h.1.2⟩
  | x :: y :: r, k + 1, a, b, h, ha, hb => by
    simp only [stepsOk, Bool.and_eq_true] at h
    exact stepsOk_at (y :: r) k a b h.2 (by simpa using ha) (by simpa using hb)
  | [x], k, a, b, _, ha, hb => by
    cases k <;> simp at hb
  | [], k, a, b, _, ha, _ => by simp at ha
theorem words_ok : ((List.range 6).all fun n => stepsOk (wordsTo n)) = true := by decide +kernel
theorem wordsOf_length : ∀ n, (wordsOf n).length = 3 ^ n
  | 0 => rfl
  | n + 1 => by
    unfold wordsOf
    rw [List.length_flatMap]
    simp [letters, Nat.pow_succ, List.map_const', wordsOf_length n]
end Go.Proofs.Ytppliiingoonlaa

/-
  Letters and words: places, and what makes a word. Of no function of the program.
-/
namespace Go.Proofs.Ytppliiingoonlaa
open Go.RowKit
/-- The place of a letter, or -1. -/
def letIdx (b : UInt8) : Int := if b = 97 then 0 else if b = 98 then 1 else if b = 99 then 2 else -1

theorem letIdx_lib (b : UInt8) : Lib.indexByte [97, 98, 99] b = letIdx b := by
  unfold letIdx
  by_cases h0 : b = 97
  · subst h0; rfl
  · by_cases h1 : b = 98
    · subst h1; rfl
    · by_cases h2 : b = 99
      · subst h2; rfl
      · rw [if_neg h0, if_neg h1, if_neg h2]
        have e0 : ¬ (97 = b) := fun e => h0 e.symm
        have e1 : ¬ (98 = b) := fun e => h1 e.symm
        have e2 : ¬ (99 = b) := fun e => h2 e.symm
        simp [Lib.indexByte, e0, e1, e2]


theorem letIdx_yes {b : UInt8} (h : isLetter b = true) : letIdx b = (b.toNat : Int) - 97 ∧ 97 ≤ b.toNat ∧ b.toNat ≤ 99 := by
  simp only [isLetter, Bool.and_eq_true, decide_eq_true_eq] at h
  refine ⟨?_, h.1, h.2⟩
  unfold letIdx
  by_cases h0 : b = 97
  · rw [if_pos h0, h0]; rfl
  · by_cases h1 : b = 98
    · rw [if_neg h0, if_pos h1, h1]; rfl
    · have h2 : b = 99 := by
        have n0 : b.toNat ≠ 97 := fun e => h0 (UInt8.toNat_inj.1 e)
        have n1 : b.toNat ≠ 98 := fun e => h1 (UInt8.toNat_inj.1 e)
        exact UInt8.toNat_inj.1 (show b.toNat = 99 by omega)
      rw [if_neg h0, if_neg h1, if_pos h2, h2]; rfl
theorem letIdx_no {b : UInt8} (h : isLetter b = false) : letIdx b = -1 := by
  have n : b.toNat ≠ 97 ∧ b.toNat ≠ 98 ∧ b.toNat ≠ 99 := by
    refine ⟨fun e => ?_, fun e => ?_, fun e => ?_⟩ <;> simp [isLetter, e] at h
  unfold letIdx
  rw [if_neg (fun e => n.1 (by rw [e]; rfl)), if_neg (fun e => n.2.1 (by rw [e]; rfl)), if_neg (fun e => n.2.2 (by rw [e]; rfl))]

theorem all_take_succ (s : ByteArray) (k : Nat) (h : k < s.size) : (s.data.toList.take (k + 1)).all isLetter = ((s.data.toList.take k).all isLetter && isLetter s[k]) := by
  rw [List.take_succ_eq_append_getElem (by simpa using h), List.all_append]
  simp
  rfl
theorem isW_bad {s : ByteArray} {k : Nat} (h : k < s.size) (hb : isLetter s[k] = false) : isW s.data.toList = false := by
  have : s.data.toList.all isLetter = false := by
    rw [List.all_eq_false]
    exact ⟨s[k], List.mem_iff_getElem.2 ⟨k, by simpa using h, rfl⟩, by simp [hb]⟩
  simp [isW, this]
theorem isW_all {s : ByteArray} (h : (s.data.toList.take s.size).all isLetter = true) : isW s.data.toList = decide ((s.size : Int) ≤ 30) := by
  have e : s.data.toList.take s.size = s.data.toList := List.take_of_length_le (by simp)
  rw [e] at h
  unfold isW
  rw [h, Bool.true_and]
  simp
  omega
theorem isW_long {s : ByteArray} (h : 30 < s.size) : isW s.data.toList = false := by
  unfold isW
  rw [Bool.and_eq_false_iff]
  right
  simp
  omega

end Go.Proofs.Ytppliiingoonlaa

/-
  What spec.LetterIndex answers at every byte: the letter's place, or -1; the world is as it was.
-/
namespace Go.Proofs.Ytppliiingoonlaa
open Go.RowKit
end Go.Proofs.Ytppliiingoonlaa

/-
  What spec.IsWord answers at every string: whether it is a word of at most 30 letters; the world is as it was.
-/
namespace Go.Proofs.Ytppliiingoonlaa
open Go.RowKit
end Go.Proofs.Ytppliiingoonlaa

/-
  What spec.l3All answers: whether every node of an expression has one of the nine forms.
-/
namespace Go.Proofs.Ytppliiingoonlaa
open Go.RowKit
/-- How many parts a kind has. -/
def argsOf (k : Int) : Int := if k = 5 ∨ k = 6 ∨ k = 7 then 2 else if k = 8 ∨ k = 9 then 1 else 0
/-- Whether a node has one of the nine forms; m: how many parts it has. -/
def nodeOk (k : Int) (l : ByteArray) (m : Nat) : Bool :=
  if k = 3 then decide (l.size = 1) && isW l.data.toList && decide (m = 0) else decide (1 ≤ k ∧ k ≤ 9) && decide (l.size = 0) && decide ((m : Int) = argsOf k)
def allRow : Fr → Bool
  | .nil => true
  | .cons k l a r => allRow a && nodeOk k l a.items.length && allRow r
def okItem (x : Int × ByteArray × Fr) : Bool := allRow x.2.2 && nodeOk x.1 x.2.1 x.2.2.items.length
theorem all_items : ∀ f : Fr, allRow f = f.items.all okItem
  | .nil => rfl
  | .cons k l a r => by
    simp only [allRow, Fr.items, List.all_cons, okItem]
    rw [all_items r]
theorem all_step {f : Fr} {j : Nat} {k : Int} {l : ByteArray} {a : Fr} (h : f.items[j]? = some (k, l, a)) (hall : (f.items.take j).all okItem = true) (ho : (allRow a && nodeOk k l a.items.length) = true) : (f.items.take (j + 1)).all okItem = true := by
  have hlt := (List.getElem?_eq_some_iff.1 h).1
  rw [List.take_succ_eq_append_getElem hlt, List.all_append, hall, (List.getElem?_eq_some_iff.1 h).2]
  simpa [okItem] using ho
theorem all_bad {f : Fr} {j : Nat} {k : Int} {l : ByteArray} {a : Fr} (h : f.items[j]? = some (k, l, a)) (ho : (allRow a && nodeOk k l a.items.length) = false) : allRow f = false := by
  rw [all_items, List.all_eq_false]
  exact ⟨_, List.mem_of_getElem? h, by simp [okItem, ho]⟩
theorem bytes_nil {l : ByteArray} (h : l.size = 0) : l.toList = [] := by
  rw [ByteArray.toList_eq]
  exact List.eq_nil_of_length_eq_zero (by simpa using h)
theorem bytes_some {l : ByteArray} (h : l.size ≠ 0) : ¬ l.toList = [] := by
  rw [ByteArray.toList_eq]
  intro e
  have := congrArg List.length e
  exact h (by simpa using this)

end Go.Proofs.Ytppliiingoonlaa

/-
  What spec.IsValidRegex answers: whether an expression is valid.
-/
namespace Go.Proofs.Ytppliiingoonlaa
open Go.RowKit
/-- Whether the node with this kind, letter and parts is a valid expression. -/
def validRx (k : Int) (l : ByteArray) (a : Fr) : Bool := decide (0 ≤ leftRow a 15) && decide (a.depth + 1 ≤ 6) && (allRow a && nodeOk k l a.items.length)

theorem box_cells {w wr : World} {k : Int} {l : ByteArray} {u : Value} {t : TypeId} (hb : Below (w.heap.size + 1) (w.alloc (.cells #[.int .i64 k, .string l, u] t)) wr) :
    wr.cell? ⟨w.heap.size, 0, none⟩ = some (.int .i64 k) ∧ wr.cell? ⟨w.heap.size, 1, none⟩ = some (.string l) ∧ wr.cell? ⟨w.heap.size, 2, none⟩ = some u :=
  ⟨(hb.cell (p := ⟨w.heap.size, 0, none⟩) (Nat.lt_succ_self _)).trans (by simp), (hb.cell (p := ⟨w.heap.size, 1, none⟩) (Nat.lt_succ_self _)).trans (by simp), (hb.cell (p := ⟨w.heap.size, 2, none⟩) (Nat.lt_succ_self _)).trans (by simp)⟩

end Go.Proofs.Ytppliiingoonlaa

/-
  The representation of an expression; the nine forms. Of no function of the program.
-/
namespace Go.Proofs.Ytppliiingoonlaa
open Go.RowKit
def signOf (k : Int) : List UInt8 := if k = 6 then [124] else if k = 7 then [38] else []
/-- A node's text, its parts' texts at hand. -/
def nodeTxt (k : Int) (l : ByteArray) (ts : List (List UInt8)) : List UInt8 :=
  if k = 1 then [48] else if k = 2 then [49] else if k = 3 then l.data.toList else if k = 4 then [46] else if k = 8 then 42 :: ts.getD 0 [] else if k = 9 then 33 :: ts.getD 0 []
  else 40 :: ts.getD 0 [] ++ signOf k ++ ts.getD 1 [] ++ [41]
def texts : Fr → List (List UInt8)
  | .nil => []
  | .cons k l a r => nodeTxt k l (texts a) :: texts r
theorem texts_at : ∀ {f : Fr} {j : Nat} {k : Int} {l : ByteArray} {a : Fr}, f.items[j]? = some (k, l, a) → (texts f).getD j [] = nodeTxt k l (texts a)
  | .nil, j, _, _, _, h => by simp [Fr.items] at h
  | .cons k' l' a' r, 0, k, l, a, h => by
    simp [Fr.items] at h
    obtain ⟨rfl, rfl, rfl⟩ := h
    simp [texts]
  | .cons k' l' a' r, j + 1, k, l, a, h => by
    simp [Fr.items] at h
    simpa [texts] using texts_at h
theorem texts_length : ∀ f : Fr, (texts f).length = f.items.length
  | .nil => rfl
  | .cons _ _ _ r => by simp [texts, Fr.items, texts_length r]

theorem nodeOk_cases {k : Int} {l : ByteArray} {m : Nat} (h : nodeOk k l m = true) :
    (k = 1 ∧ m = 0) ∨ (k = 2 ∧ m = 0) ∨ (k = 3 ∧ l.size = 1 ∧ m = 0) ∨ (k = 4 ∧ m = 0) ∨ (k = 5 ∧ m = 2) ∨ (k = 6 ∧ m = 2) ∨ (k = 7 ∧ m = 2) ∨ (k = 8 ∧ m = 1) ∨ (k = 9 ∧ m = 1) := by
  unfold nodeOk at h
  by_cases h3 : k = 3
  · rw [if_pos h3] at h
    simp only [Bool.and_eq_true, decide_eq_true_eq] at h
    omega
  · rw [if_neg h3] at h
    simp only [Bool.and_eq_true, decide_eq_true_eq] at h
    obtain ⟨⟨hk, _⟩, hm⟩ := h
    unfold argsOf at hm
    split at hm
    · omega
    · split at hm <;> omega

theorem nodeTxt_le {k : Int} {l : ByteArray} {a : Fr} (h : nodeOk k l a.items.length = true) : (nodeTxt k l (texts a)).length ≤ 3 + (texts a).flatten.length := by
  have two : ∀ ts : List (List UInt8), (ts.getD 0 []).length + (ts.getD 1 []).length ≤ ts.flatten.length := fun ts => by
    match ts with
    | [] => simp
    | [x] => simp
    | x :: y :: r => first | (simp; done) | (simp; omega)
  have h2 := two (texts a)
  rcases nodeOk_cases h with ⟨rfl, _⟩ | ⟨rfl, _⟩ | ⟨rfl, hl, _⟩ | ⟨rfl, _⟩ | ⟨rfl, _⟩ | ⟨rfl, _⟩ | ⟨rfl, _⟩ | ⟨rfl, _⟩ | ⟨rfl, _⟩
  · first | (simp [nodeTxt]; done) | (simp [nodeTxt]; omega)
  · first | (simp [nodeTxt]; done) | (simp [nodeTxt]; omega)
  · have : l.data.toList.length = 1 := by simpa using hl
    simp only [nodeTxt, if_neg (show ¬ (3 : Int) = 1 by decide), if_neg (show ¬ (3 : Int) = 2 by decide), if_true]
    omega
  · first | (simp [nodeTxt]; done) | (simp [nodeTxt]; omega)
  all_goals
    simp [nodeTxt, signOf]
    simp at h2
    omega
theorem texts_le : ∀ f : Fr, allRow f = true → (texts f).flatten.length ≤ 3 * f.size
  | .nil, _ => by simp [texts, Fr.size]
  | .cons k l a r, h => by
    simp only [allRow, Bool.and_eq_true] at h
    have h1 := texts_le a h.1.1
    have h2 := texts_le r h.2
    have h3 := nodeTxt_le h.1.2
    simp only [texts, List.flatten_cons, List.length_append, Fr.size]
    omega
theorem item_ok {f : Fr} {j : Nat} {k : Int} {l : ByteArray} {a : Fr} (hf : allRow f = true) (h : f.items[j]? = some (k, l, a)) : (allRow a && nodeOk k l a.items.length) = true := by
  rw [all_items, List.all_eq_true] at hf
  exact hf _ (List.mem_of_getElem? h)

theorem str_cat (a b : ByteArray) (x y : List UInt8) (ha : a = ⟨x.toArray⟩) (hb : b = ⟨y.toArray⟩) : a ++ b = ⟨(x ++ y).toArray⟩ := by rw [ha, hb, ByteArray.mk_append_mk]

theorem valid_ok {k : Int} {l : ByteArray} {a : Fr} (h : validRx k l a = true) : (allRow a && nodeOk k l a.items.length) = true := by
  unfold validRx at h
  rw [Bool.and_eq_true] at h
  exact h.2
end Go.Proofs.Ytppliiingoonlaa

/-
  What spec.l3Text and spec.FormatRegex answer: the representation of an expression.
-/
namespace Go.Proofs.Ytppliiingoonlaa
open Go.RowKit
end Go.Proofs.Ytppliiingoonlaa

/-
  Expressions read from a text: what is read, what stands behind it; the text that was read is the expression's own. Of no function of the program.
-/
namespace Go.Proofs.Ytppliiingoonlaa
open Go.RowKit
def Nd : Type := Int × ByteArray × Fr
def bare (k : Int) : Nd := (k, ⟨#[]⟩, .nil)
def one (k : Int) (x : Nd) : Nd := (k, ⟨#[]⟩, .cons x.1 x.2.1 x.2.2 .nil)
def two (k : Int) (x y : Nd) : Nd := (k, ⟨#[]⟩, .cons x.1 x.2.1 x.2.2 (.cons y.1 y.2.1 y.2.2 .nil))
def signB : List UInt8 → Int × List UInt8
  | [] => (5, [])
  | c :: r => if c = 124 then (6, r) else if c = 38 then (7, r) else (5, c :: r)
def closeB : List UInt8 → Option (List UInt8)
  | [] => none
  | c :: r => if c = 41 then some r else none
def pairB (x : Nd) (k : Int) (p : Option (Nd × List UInt8)) : Option (Nd × List UInt8) :=
  match p with
  | none => none
  | some (y, t) => (closeB t).map fun t' => (two k x y, t')
/-- The expression at the beginning of a text, at most d deep, and what follows it. -/
def parse : Nat → List UInt8 → Option (Nd × List UInt8)
  | 0, _ => none
  | _ + 1, [] => none
  | d + 1, c :: r =>
    if c = 48 then some (bare 1, r) else if c = 49 then some (bare 2, r) else if c = 46 then some (bare 4, r)
    else if c = 42 then (parse d r).map fun x => (one 8 x.1, x.2)
    else if c = 33 then (parse d r).map fun x => (one 9 x.1, x.2)
    else if c = 40 then (parse d r).bind fun x => pairB x.1 (signB x.2).1 (parse d (signB x.2).2)
    else if isLetter c then some ((3, ⟨#[c]⟩, .nil), r) else none

theorem signB_cons (c : UInt8) (r : List UInt8) : signB (c :: r) = if c = 124 then (6, r) else if c = 38 then (7, r) else (5, c :: r) := rfl
theorem closeB_cons (c : UInt8) (r : List UInt8) : closeB (c :: r) = if c = 41 then some r else none := rfl
theorem signB_text (t : List UInt8) : t = signOf (signB t).1 ++ (signB t).2 := by
  cases t with
  | nil => rfl
  | cons c r =>
    rw [signB_cons]
    by_cases h1 : c = 124
    · subst h1; rfl
    · by_cases h2 : c = 38
      · subst h2; rfl
      · rw [if_neg h1, if_neg h2]; rfl
theorem signB_kind (t : List UInt8) : (signB t).1 = 5 ∨ (signB t).1 = 6 ∨ (signB t).1 = 7 := by
  cases t with
  | nil => exact .inl rfl
  | cons c r =>
    rw [signB_cons]
    by_cases h1 : c = 124
    · rw [if_pos h1]; exact .inr (.inl rfl)
    · by_cases h2 : c = 38
      · rw [if_neg h1, if_pos h2]; exact .inr (.inr rfl)
      · rw [if_neg h1, if_neg h2]; exact .inl rfl
theorem closeB_text {t t' : List UInt8} (h : closeB t = some t') : t = 41 :: t' := by
  cases t with
  | nil => cases h
  | cons c r =>
    rw [closeB_cons] at h
    by_cases h1 : c = 41
    · rw [if_pos h1] at h
      cases h
      rw [h1]
    · rw [if_neg h1] at h
      cases h
def ndTxt (x : Nd) : List UInt8 := nodeTxt x.1 x.2.1 (texts x.2.2)
theorem txt_one (k : Int) (x : Nd) (hk : k = 8 ∨ k = 9) : ndTxt (one k x) = (if k = 8 then 42 else 33) :: ndTxt x := by
  rcases hk with rfl | rfl <;> simp [ndTxt, one, nodeTxt, texts]
theorem txt_two (k : Int) (x y : Nd) (hk : k = 5 ∨ k = 6 ∨ k = 7) : ndTxt (two k x y) = 40 :: ndTxt x ++ signOf k ++ ndTxt y ++ [41] := by
  rcases hk with rfl | rfl | rfl <;> simp [ndTxt, two, nodeTxt, texts]

theorem parse_spec : ∀ (d : Nat) (s : List UInt8) (x : Nd) (t : List UInt8), parse d s = some (x, t) → s = ndTxt x ++ t ∧ x.2.2.size + 2 ≤ 2 ^ d ∧ x.2.1.size ≤ 1
  | 0, _, _, _, h => by cases h
  | d + 1, [], _, _, h => by cases h
  | d + 1, c :: r, x, t, h => by
    have hd : 1 ≤ 2 ^ d := Nat.one_le_two_pow
    have hdd : 2 ^ (d + 1) = 2 ^ d * 2 := Nat.pow_succ ..
    unfold parse at h
    by_cases h1 : c = 48
    · rw [if_pos h1] at h
      cases h
      subst h1
      exact ⟨rfl, by simp [bare, Fr.size]; omega, Nat.zero_le _⟩
    rw [if_neg h1] at h
    by_cases h2 : c = 49
    · rw [if_pos h2] at h
      cases h
      subst h2
      exact ⟨rfl, by simp [bare, Fr.size]; omega, Nat.zero_le _⟩
    rw [if_neg h2] at h
    by_cases h3 : c = 46
    · rw [if_pos h3] at h
      cases h
      subst h3
      exact ⟨rfl, by simp [bare, Fr.size]; omega, Nat.zero_le _⟩
    rw [if_neg h3] at h
    by_cases h4 : c = 42
    · rw [if_pos h4] at h
      obtain ⟨⟨y, t'⟩, hy, e⟩ := Option.map_eq_some_iff.1 h
      cases e
      obtain ⟨e1, e2, e3⟩ := parse_spec d r y _ hy
      refine ⟨by rw [txt_one 8 y (.inl rfl), e1, h4]; rfl, ?_, Nat.zero_le _⟩
      simp only [one, Fr.size]
      omega
    rw [if_neg h4] at h
    by_cases h5 : c = 33
    · rw [if_pos h5] at h
      obtain ⟨⟨y, t'⟩, hy, e⟩ := Option.map_eq_some_iff.1 h
      cases e
      obtain ⟨e1, e2, e3⟩ := parse_spec d r y _ hy
      refine ⟨by rw [txt_one 9 y (.inr rfl), e1, h5]; rfl, ?_, Nat.zero_le _⟩
      simp only [one, Fr.size]
      omega
    rw [if_neg h5] at h
    by_cases h6 : c = 40
    · rw [if_pos h6] at h
      obtain ⟨⟨y, t1⟩, hy, h⟩ := Option.bind_eq_some_iff.1 h
      obtain ⟨e1, e2, e3⟩ := parse_spec d r y t1 hy
      cases hz : parse d (signB t1).2 with
      | none => simp only [hz, pairB] at h; cases h
      | some p =>
        obtain ⟨z, t2⟩ := p
        simp only [hz, pairB] at h
        obtain ⟨t3, ht, e⟩ := Option.map_eq_some_iff.1 h
        cases e
        obtain ⟨f1, f2, f3⟩ := parse_spec d _ z t2 hz
        refine ⟨?_, ?_, Nat.zero_le _⟩
        · rw [txt_two _ y z (signB_kind t1), h6, e1]
          have g1 := signB_text t1
          rw [f1, closeB_text ht] at g1
          conv => lhs; rw [g1]
          simp
        · simp only [two, Fr.size]
          omega
    rw [if_neg h6] at h
    by_cases h7 : isLetter c = true
    · rw [if_pos h7] at h
      cases h
      exact ⟨by simp [ndTxt, nodeTxt], by simp [Fr.size]; omega, Nat.le_refl _⟩
    · rw [if_neg h7] at h
      cases h

/-- What a whole text is read as. -/
def parseAll (s : List UInt8) : Option Nd :=
  match parse 6 s with
  | some (x, []) => if validRx x.1 x.2.1 x.2.2 then some x else none
  | _ => none
end Go.Proofs.Ytppliiingoonlaa

/-
  A valid expression's own text is read as it. Of no function of the program.
-/
namespace Go.Proofs.Ytppliiingoonlaa
open Go.RowKit
theorem letter_ne {c : UInt8} (h : isLetter c = true) : c ≠ 48 ∧ c ≠ 49 ∧ c ≠ 46 ∧ c ≠ 42 ∧ c ≠ 33 ∧ c ≠ 40 ∧ c ≠ 124 ∧ c ≠ 38 := by
  simp only [isLetter, Bool.and_eq_true, decide_eq_true_eq] at h
  refine ⟨?_, ?_, ?_, ?_, ?_, ?_, ?_, ?_⟩ <;> (rintro rfl; revert h; decide)
/-- The kinds of a sound node, and what they carry. -/
theorem node_cases {k : Int} {l : ByteArray} {a : Fr} (h : nodeOk k l a.items.length = true) :
    (∃ c, k = 3 ∧ l = ⟨#[c]⟩ ∧ isLetter c = true ∧ a = .nil) ∨ (l = ⟨#[]⟩ ∧ ((k = 1 ∨ k = 2 ∨ k = 4) ∧ a = .nil ∨ (k = 8 ∨ k = 9) ∧ (∃ k1 l1 a1, a = .cons k1 l1 a1 .nil) ∨
      (k = 5 ∨ k = 6 ∨ k = 7) ∧ ∃ k1 l1 a1 k2 l2 a2, a = .cons k1 l1 a1 (.cons k2 l2 a2 .nil))) := by
  have nil : ∀ f : Fr, f.items.length = 0 → f = .nil := fun f hf => by
    cases f with
    | nil => rfl
    | cons _ _ _ _ => simp [Fr.items] at hf
  unfold nodeOk at h
  by_cases hk : k = 3
  · rw [if_pos hk] at h
    simp only [Bool.and_eq_true, decide_eq_true_eq] at h
    obtain ⟨⟨h1, h2⟩, h3⟩ := h
    left
    obtain ⟨⟨L⟩⟩ := l
    match L, h1, h2 with
    | [c], _, h2 => exact ⟨c, hk, rfl, by simpa [isW] using h2, nil a h3⟩
  · rw [if_neg hk] at h
    simp only [Bool.and_eq_true, decide_eq_true_eq] at h
    obtain ⟨⟨⟨h0, h9⟩, h1⟩, h2⟩ := h
    right
    refine ⟨ByteArray.ext (Array.eq_empty_of_size_eq_zero h1), ?_⟩
    have hc : k = 1 ∨ k = 2 ∨ k = 4 ∨ k = 5 ∨ k = 6 ∨ k = 7 ∨ k = 8 ∨ k = 9 := by omega
    have one : a.items.length = 1 → ∃ k1 l1 a1, a = .cons k1 l1 a1 .nil := fun hf => by
      cases a with
      | nil => simp [Fr.items] at hf
      | cons k1 l1 a1 r => exact ⟨k1, l1, a1, by rw [nil r (by simpa [Fr.items] using hf)]⟩
    have two : a.items.length = 2 → ∃ k1 l1 a1 k2 l2 a2, a = .cons k1 l1 a1 (.cons k2 l2 a2 .nil) := fun hf => by
      cases a with
      | nil => simp [Fr.items] at hf
      | cons k1 l1 a1 r =>
        cases r with
        | nil => simp [Fr.items] at hf
        | cons k2 l2 a2 r => exact ⟨k1, l1, a1, k2, l2, a2, by rw [nil r (by simpa [Fr.items] using hf)]⟩
    rcases hc with rfl | rfl | rfl | rfl | rfl | rfl | rfl | rfl <;> simp [argsOf] at h2 <;> first
      | exact .inl ⟨by simp, nil a (by rw [h2]; rfl)⟩
      | exact .inr (.inl ⟨by simp, one (by omega)⟩)
      | exact .inr (.inr ⟨by simp, two (by omega)⟩)
theorem first_ne {k : Int} {l : ByteArray} {a : Fr} (h : nodeOk k l a.items.length = true) (t : List UInt8) : ∃ c r, ndTxt (k, l, a) ++ t = c :: r ∧ c ≠ 124 ∧ c ≠ 38 := by
  rcases node_cases h with ⟨c, rfl, rfl, hc, rfl⟩ | ⟨rfl, ⟨hk, rfl⟩ | ⟨hk, k1, l1, a1, rfl⟩ | ⟨hk, k1, l1, a1, k2, l2, a2, rfl⟩⟩
  · exact ⟨c, t, by simp [ndTxt, nodeTxt], (letter_ne hc).2.2.2.2.2.2.1, (letter_ne hc).2.2.2.2.2.2.2⟩
  · rcases hk with rfl | rfl | rfl
    · exact ⟨48, t, by simp [ndTxt, nodeTxt], by decide, by decide⟩
    · exact ⟨49, t, by simp [ndTxt, nodeTxt], by decide, by decide⟩
    · exact ⟨46, t, by simp [ndTxt, nodeTxt], by decide, by decide⟩
  · rcases hk with rfl | rfl
    · exact ⟨42, _, by simp [ndTxt, nodeTxt]; rfl, by decide, by decide⟩
    · exact ⟨33, _, by simp [ndTxt, nodeTxt]; rfl, by decide, by decide⟩
  · rcases hk with rfl | rfl | rfl <;> exact ⟨40, _, by simp [ndTxt, nodeTxt]; rfl, by decide, by decide⟩
theorem signB_sign {k : Int} (hk : k = 5 ∨ k = 6 ∨ k = 7) {c : UInt8} {r : List UInt8} (h1 : c ≠ 124) (h2 : c ≠ 38) : signB (signOf k ++ c :: r) = (k, c :: r) := by
  rcases hk with rfl | rfl | rfl
  · show signB (c :: r) = _
    rw [signB_cons, if_neg h1, if_neg h2]
  · rfl
  · rfl
theorem parse_full : ∀ (d : Nat) (x : Nd) (t : List UInt8), nodeOk x.1 x.2.1 x.2.2.items.length = true → allRow x.2.2 = true → x.2.2.depth + 1 ≤ d → parse d (ndTxt x ++ t) = some (x, t)
  | 0, _, _, _, _, h => by omega
  | d + 1, ⟨k, l, a⟩, t, hn, ha, hd => by
    rcases node_cases hn with ⟨c, e1, e2, hc, e3⟩ | ⟨e2, ⟨hk, e3⟩ | ⟨hk, k1, l1, a1, e3⟩ | ⟨hk, k1, l1, a1, k2, l2, a2, e3⟩⟩
    · obtain rfl : k = 3 := e1
      obtain rfl : l = _ := e2
      obtain rfl : a = _ := e3
      obtain ⟨n1, n2, n3, n4, n5, n6, _, _⟩ := letter_ne hc
      simp [ndTxt, nodeTxt, parse, n1, n2, n3, n4, n5, n6, hc]
    · obtain rfl : l = _ := e2
      obtain rfl : a = _ := e3
      rcases hk with e | e | e <;> (obtain rfl : k = _ := e; simp [ndTxt, nodeTxt, parse, bare])
    · obtain rfl : l = _ := e2
      obtain rfl : a = _ := e3
      simp only [allRow, Bool.and_eq_true] at ha
      simp only [Fr.depth] at hd
      have ih := parse_full d (k1, l1, a1) t ha.1.2 ha.1.1 (by show a1.depth + 1 ≤ d; omega)
      have e : ndTxt (k, ⟨#[]⟩, .cons k1 l1 a1 .nil) ++ t = (if k = 8 then 42 else 33) :: (ndTxt (k1, l1, a1) ++ t) := by
        have := txt_one k (k1, l1, a1) hk
        unfold one at this
        rw [this]
        rfl
      rw [e]
      rcases hk with e | e <;> (obtain rfl : k = _ := e; simp [parse, ih, one])
    · obtain rfl : l = _ := e2
      obtain rfl : a = _ := e3
      simp only [allRow, Bool.and_eq_true] at ha
      simp only [Fr.depth] at hd
      obtain ⟨c, r, hcr, hc1, hc2⟩ := first_ne (a := a2) ha.2.1.2 (41 :: t)
      have ih2 := parse_full d (k2, l2, a2) (41 :: t) ha.2.1.2 ha.2.1.1 (by show a2.depth + 1 ≤ d; omega)
      have ih1 := parse_full d (k1, l1, a1) (signOf k ++ (ndTxt (k2, l2, a2) ++ 41 :: t)) ha.1.2 ha.1.1 (by show a1.depth + 1 ≤ d; omega)
      have hs : signB (signOf k ++ (ndTxt (k2, l2, a2) ++ 41 :: t)) = (k, ndTxt (k2, l2, a2) ++ 41 :: t) := by rw [hcr]; exact signB_sign hk hc1 hc2
      have e : ndTxt (k, ⟨#[]⟩, .cons k1 l1 a1 (.cons k2 l2 a2 .nil)) ++ t = 40 :: (ndTxt (k1, l1, a1) ++ (signOf k ++ (ndTxt (k2, l2, a2) ++ 41 :: t))) := by
        have := txt_two k (k1, l1, a1) (k2, l2, a2) hk
        unfold two at this
        rw [this]
        simp
      rw [e]
      simp [parse, ih1, hs, ih2, pairB, closeB, two]
theorem parseAll_text {k : Int} {l : ByteArray} {a : Fr} (h : validRx k l a = true) : parseAll (nodeTxt k l (texts a)) = some (k, l, a) := by
  have h' := h
  simp only [validRx, Bool.and_eq_true, decide_eq_true_eq] at h'
  have := parse_full 6 (k, l, a) [] h'.2.2 h'.2.1 h'.1.2
  rw [List.append_nil] at this
  unfold parseAll
  have e : nodeTxt k l (texts a) = ndTxt (k, l, a) := rfl
  rw [e, this]
  simp [h]
  rfl
theorem parseAll_valid {s : List UInt8} {x : Nd} (h : parseAll s = some x) : validRx x.1 x.2.1 x.2.2 = true ∧ s = nodeTxt x.1 x.2.1 (texts x.2.2) := by
  unfold parseAll at h
  split at h
  · rename_i y hy
    split at h
    · rename_i hv
      cases h
      have := (parse_spec 6 s x [] hy).1
      rw [List.append_nil] at this
      exact ⟨hv, this⟩
    · cases h
  · cases h
end Go.Proofs.Ytppliiingoonlaa

/-
  Plain facts on terms, of no program: letters and variables, the variables that occur, a text with a part in the place of each byte.
-/
namespace Go.Proofs.Ytppliiingoonlaa
open Go.RowKit
def isVarB (b : UInt8) : Bool := decide (88 ≤ b.toNat) && decide (b.toNat ≤ 90)
def tLet (b : UInt8) : Bool := isLetter b || isVarB b
def isT (l : List UInt8) : Bool := l.all tLet && decide (l.length ≤ 12)
def vars3 : List UInt8 := [88, 89, 90]
/-- The variables that occur, in order. -/
def varsL (l : List UInt8) : List UInt8 := vars3.filter fun b => l.contains b
/-- A text of at most 2^20 bytes, or none. -/
def limB (l : List UInt8) : List UInt8 := if l.length ≤ 1048576 then l else []
def valB (x y z : ByteArray) (b : UInt8) : ByteArray := if b = 88 then x else if b = 89 then y else if b = 90 then z else ⟨#[]⟩
def withV (x y z : ByteArray) (b : UInt8) (s : ByteArray) : Value := .agg #[.string (if b = 88 then s else x), .string (if b = 89 then s else y), .string (if b = 90 then s else z)]
def isV (x y z : ByteArray) : Bool := isW x.data.toList && isW y.data.toList && isW z.data.toList
/-- A part in the place of each byte. -/
def subL (f : UInt8 → List UInt8) (l : List UInt8) : List UInt8 := l.flatMap f
def repF (b0 : UInt8) (t : ByteArray) (b : UInt8) : List UInt8 := if b = b0 then t.data.toList else [b]
def appF (x y z : ByteArray) (b : UInt8) : List UInt8 := if isVarB b then (valB x y z b).data.toList else [b]

/-- How often a byte occurs. -/
def cntL (l : List UInt8) (b : UInt8) : Nat := l.count b
/-- The variables that occur, among the first k. -/
def varsK (l : List UInt8) (k : Nat) : List UInt8 := (vars3.take k).filter fun b => decide (0 < cntL l b)
/-- Text as a string. -/
def strL (l : List UInt8) : ByteArray := ⟨l.toArray⟩
theorem tAll_succ (s : ByteArray) (k : Nat) (h : k < s.size) : (s.data.toList.take (k + 1)).all tLet = ((s.data.toList.take k).all tLet && tLet s[k]) := by
  rw [List.take_succ_eq_append_getElem (by simpa using h), List.all_append]
  simp
  rfl
theorem isT_bad {s : ByteArray} {k : Nat} (h : k < s.size) (hb : tLet s[k] = false) : isT s.data.toList = false := by
  have : s.data.toList.all tLet = false := by
    rw [List.all_eq_false]
    exact ⟨s[k], List.mem_iff_getElem.2 ⟨k, by simpa using h, rfl⟩, by simp [hb]⟩
  simp [isT, this]
theorem isT_all {s : ByteArray} (h : (s.data.toList.take s.size).all tLet = true) : isT s.data.toList = decide ((s.size : Int) ≤ 12) := by
  have e : s.data.toList.take s.size = s.data.toList := List.take_of_length_le (by simp)
  rw [e] at h
  unfold isT
  rw [h, Bool.true_and]
  simp
  omega
theorem isT_long {s : ByteArray} (h : 12 < s.size) : isT s.data.toList = false := by
  unfold isT
  rw [Bool.and_eq_false_iff]
  right
  simp
  omega
theorem count_succ (s : ByteArray) (b : UInt8) (k : Nat) (h : k < s.size) : cntL (s.data.toList.take (k + 1)) b = cntL (s.data.toList.take k) b + (if s[k] = b then 1 else 0) := by
  unfold cntL
  rw [List.take_succ_eq_append_getElem (by simpa using h), List.count_append, List.count_singleton]
  congr 1
  have e : s.data.toList[k]'(by simpa using h) = s[k] := rfl
  rw [e]
  by_cases h1 : s[k] = b <;> simp [h1]
theorem count_end (s : ByteArray) (b : UInt8) : cntL (s.data.toList.take s.size) b = cntL s.data.toList b := by
  rw [List.take_of_length_le (by simp)]
theorem index_cnt (l : List UInt8) (b : UInt8) : decide (0 ≤ Lib.indexByte l b) = decide (0 < cntL l b) := by
  unfold cntL
  induction l with
  | nil => rfl
  | cons a r ih =>
    unfold Lib.indexByte
    have hge := Lib.indexByte_ge r b
    by_cases h : a = b
    · subst h
      simp
    · rw [List.count_cons_of_ne h]
      rw [if_neg (by simpa using h)]
      by_cases h2 : Lib.indexByte r b = -1
      · rw [if_pos (by simpa using h2)]
        rw [h2] at ih
        rw [← ih]
      · rw [if_neg (by simpa using h2)]
        have h0 : decide (0 ≤ Lib.indexByte r b) = true := by simp; omega
        rw [h0] at ih
        rw [← ih]
        simp
        omega
theorem cntL_contains (l : List UInt8) (b : UInt8) : decide (0 < cntL l b) = l.contains b := by
  unfold cntL
  rw [Bool.eq_iff_iff]
  simp [List.count_pos_iff]
theorem varsK_succ (l : List UInt8) {k : Nat} {b : UInt8} (h : vars3[k]? = some b) : varsK l (k + 1) = varsK l k ++ (if 0 < cntL l b then [b] else []) := by
  unfold varsK
  rw [List.take_add_one, h, List.filter_append]
  congr 1
  by_cases hc : 0 < cntL l b <;> simp [hc]
theorem varsK_len (l : List UInt8) (k : Nat) : (varsK l k).length ≤ 3 := Nat.le_trans (List.length_filter_le _ _) (by simp [vars3]; omega)
theorem varsK_end (l : List UInt8) : varsK l 3 = varsL l := by
  unfold varsK varsL
  rw [show vars3.take 3 = vars3 from rfl]
  exact List.filter_congr fun b _ => cntL_contains l b
theorem strL_nil : (⟨#[]⟩ : ByteArray) = strL [] := rfl
theorem strL_snoc (l : List UInt8) (b : UInt8) {t : ByteArray} (h : t = ⟨#[b]⟩) : strL l ++ t = strL (l ++ [b]) := by
  subst h
  apply ByteArray.ext
  simp [strL, ByteArray.data_append]
theorem strL_app (l m : List UInt8) {t : ByteArray} (h : t.data.toList = m) : strL l ++ t = strL (l ++ m) := by
  subst h
  apply ByteArray.ext
  simp [strL, ByteArray.data_append]
theorem strL_size (l : List UInt8) : (strL l).size = l.length := by simp [strL, ByteArray.size]
theorem strL_list (l : List UInt8) : (strL l).data.toList = l := by simp [strL]
theorem one_extract (s : ByteArray) (k : Nat) (h : k < s.size) : (s.extract k (k + 1)).data.toList = [s[k]] := by
  rw [Lib.extract_data]
  have e : k + 1 - k = 1 := by omega
  have h' : k < s.data.toList.length := by simpa using h
  rw [e, List.drop_eq_getElem_cons h', List.take_succ_cons, List.take_zero]
  rfl
theorem sub_succ (f : UInt8 → List UInt8) (s : ByteArray) (k : Nat) (h : k < s.size) : subL f (s.data.toList.take (k + 1)) = subL f (s.data.toList.take k) ++ f s[k] := by
  unfold subL
  rw [List.take_succ_eq_append_getElem (by simpa using h), List.flatMap_append]
  simp
  rfl
theorem sub_zero (f : UInt8 → List UInt8) (l : List UInt8) : subL f (l.take 0) = [] := rfl
theorem sub_end (f : UInt8 → List UInt8) (s : ByteArray) : subL f (s.data.toList.take s.size) = subL f s.data.toList := by
  rw [List.take_of_length_le (by simp)]
theorem sub_len_le (f : UInt8 → List UInt8) (l : List UInt8) (k : Nat) : (subL f (l.take k)).length ≤ (subL f l).length := by
  have e : subL f l = subL f (l.take k) ++ subL f (l.drop k) := by
    unfold subL
    rw [← List.flatMap_append, List.take_append_drop]
  rw [e, List.length_append]
  omega
/-- Too many bytes at some place: too many at the end. -/
theorem sub_over {f : UInt8 → List UInt8} {l : List UInt8} {k : Nat} (h : ¬ (subL f (l.take k)).length ≤ 1048576) : limB (subL f l) = [] := by
  unfold limB
  rw [if_neg]
  intro hl
  exact h (Nat.le_trans (sub_len_le f l k) hl)
theorem sub_fits {f : UInt8 → List UInt8} {s : ByteArray} (h : (subL f (s.data.toList.take s.size)).length ≤ 1048576) : limB (subL f s.data.toList) = subL f (s.data.toList.take s.size) := by
  rw [sub_end] at h ⊢
  unfold limB
  rw [if_pos h]
theorem isVarB_iff (b : UInt8) : isVarB b = true ↔ b = 88 ∨ b = 89 ∨ b = 90 := by
  simp only [isVarB, Bool.and_eq_true, decide_eq_true_eq]
  constructor
  · intro ⟨h1, h2⟩
    rcases (by omega : b.toNat = 88 ∨ b.toNat = 89 ∨ b.toNat = 90) with h | h | h
    · exact Or.inl (UInt8.toNat_inj.1 h)
    · exact Or.inr (Or.inl (UInt8.toNat_inj.1 h))
    · exact Or.inr (Or.inr (UInt8.toNat_inj.1 h))
  · rintro (h | h | h) <;> subst h <;> decide
theorem valB_le {x y z : ByteArray} {n : Nat} (hx : x.size ≤ n) (hy : y.size ≤ n) (hz : z.size ≤ n) (b : UInt8) : (valB x y z b).size ≤ n := by
  unfold valB
  split
  · exact hx
  · split
    · exact hy
    · split
      · exact hz
      · exact Nat.zero_le _
/-- NAME=WORD. -/
def partV (x y z : ByteArray) (b : UInt8) : List UInt8 := b :: 61 :: (valB x y z b).data.toList
def partsV (x y z : ByteArray) (M : List UInt8) : List (List UInt8) := M.map (partV x y z)
theorem partV_str (x y z : ByteArray) {t : ByteArray} {b : UInt8} (h : t.data.toList = [b]) : t ++ ⟨#[61]⟩ ++ valB x y z b = ⟨(partV x y z b).toArray⟩ := by
  apply ByteArray.ext
  apply Array.ext'
  simp [partV, ByteArray.data_append, h]
theorem varIdx_lib (b : UInt8) : decide (0 ≤ Lib.indexByte [88, 89, 90] b) = isVarB b := by
  by_cases h0 : b = 88
  · subst h0; rfl
  · by_cases h1 : b = 89
    · subst h1; rfl
    · by_cases h2 : b = 90
      · subst h2; rfl
      · have hv : isVarB b = false := by
          rw [Bool.eq_false_iff]
          intro h
          rcases (isVarB_iff b).1 h with h | h | h
          · exact h0 h
          · exact h1 h
          · exact h2 h
        have e0 : ¬ (88 = b) := fun e => h0 e.symm
        have e1 : ¬ (89 = b) := fun e => h1 e.symm
        have e2 : ¬ (90 = b) := fun e => h2 e.symm
        rw [hv]
        simp [Lib.indexByte, e0, e1, e2]
theorem tLet_idx (b : UInt8) : decide (0 ≤ Lib.indexByte [97, 98, 99, 88, 89, 90] b) = tLet b := by
  unfold tLet
  by_cases h : isLetter b = true
  · obtain ⟨_, h1, h2⟩ := letIdx_yes h
    rw [h, Bool.true_or]
    rcases (by omega : b.toNat = 97 ∨ b.toNat = 98 ∨ b.toNat = 99) with e | e | e
    · obtain rfl : b = 97 := UInt8.toNat_inj.1 e
      rfl
    · obtain rfl : b = 98 := UInt8.toNat_inj.1 e
      rfl
    · obtain rfl : b = 99 := UInt8.toNat_inj.1 e
      rfl
  · have hl : isLetter b = false := by simpa using h
    by_cases hv : isVarB b = true
    · rw [hv, hl]
      rcases (isVarB_iff b).1 hv with e | e | e <;> subst e <;> rfl
    · have hv : isVarB b = false := by simpa using hv
      rw [hl, hv]
      have n0 : ¬ (97 = b) := by rintro rfl; simp [isLetter] at hl
      have n1 : ¬ (98 = b) := by rintro rfl; simp [isLetter] at hl
      have n2 : ¬ (99 = b) := by rintro rfl; simp [isLetter] at hl
      have n3 : ¬ (88 = b) := by rintro rfl; simp [isVarB] at hv
      have n4 : ¬ (89 = b) := by rintro rfl; simp [isVarB] at hv
      have n5 : ¬ (90 = b) := by rintro rfl; simp [isVarB] at hv
      simp [Lib.indexByte, n0, n1, n2, n3, n4, n5]
end Go.Proofs.Ytppliiingoonlaa

/-
  Plain facts on splitting a row of bytes at a byte, of no program.
-/
namespace Go.Proofs.Ytppliiingoonlaa
/-- The substrings between the occurrences of c. -/
def spl (c : UInt8) : List UInt8 → List (List UInt8)
  | [] => [[]]
  | b :: r => if b = c then [] :: spl c r else
    match spl c r with
    | [] => [[b]]
    | p :: ps => (b :: p) :: ps

theorem spl_ne (c : UInt8) : ∀ l, spl c l ≠ []
  | [] => by simp [spl]
  | b :: r => by
    unfold spl
    split
    · simp
    · split <;> simp

/-- Without an occurrence: one piece. -/
theorem spl_none (c : UInt8) : ∀ l, (∀ b ∈ l, b ≠ c) → spl c l = [l]
  | [], _ => rfl
  | b :: r, h => by
    unfold spl
    rw [if_neg (h b (by simp)), spl_none c r (fun x hx => h x (by simp [hx]))]

/-- The first occurrence at o: the piece before it, and the pieces of the rest. -/
theorem spl_at (c : UInt8) : ∀ (l : List UInt8) (o : Nat), l[o]? = some c → (∀ k, k < o → l[k]? ≠ some c) → spl c l = l.take o :: spl c (l.drop (o + 1))
  | [], o, h, _ => by simp at h
  | b :: r, 0, h, _ => by
    simp at h
    subst h
    rw [show spl b (b :: r) = [] :: spl b r by rw [spl, if_pos rfl]]
    simp
  | b :: r, o + 1, h, hk => by
    have hb : b ≠ c := fun e => hk 0 (by omega) (by simp [e])
    have ih := spl_at c r o (by simpa using h) (fun k hlt => by have := hk (k + 1) (by omega); simpa using this)
    have e : spl c (b :: r) = (b :: r.take o) :: spl c (r.drop (o + 1)) := by
      conv => lhs; unfold spl
      rw [if_neg hb, ih]
    rw [e]
    simp

theorem spl_length (c : UInt8) : ∀ l, (spl c l).length ≤ l.length + 1
  | [] => by simp [spl]
  | b :: r => by
    have := spl_length c r
    unfold spl
    split
    · simp; omega
    · split
      · simp
      · rename_i p ps e
        rw [e] at this
        simp at *
        omega

/-- No piece holds c. -/
theorem spl_free (c : UInt8) : ∀ l, ∀ p ∈ spl c l, ∀ b ∈ p, b ≠ c
  | [], p, hp, b, hb => by
    simp [spl] at hp
    subst hp
    simp at hb
  | x :: r, p, hp, b, hb => by
    have ih := spl_free c r
    unfold spl at hp
    split at hp
    · rcases List.mem_cons.1 hp with rfl | hp
      · simp at hb
      · exact ih p hp b hb
    · rename_i hx
      split at hp
      · simp at hp
        subst hp
        simp at hb
        rw [hb]
        exact hx
      · rename_i q qs e
        rcases List.mem_cons.1 hp with rfl | hp
        · rcases List.mem_cons.1 hb with rfl | hb
          · exact hx
          · exact ih q (by rw [e]; simp) b hb
        · exact ih p (by rw [e]; simp [hp]) b hb

/-- The model's loop: P is done, f is where the piece under way begins, k is where the loop stands. -/
def SplRel (c : UInt8) (l : List UInt8) (P : List (List UInt8)) (f k : Nat) : Prop :=
  (k ≤ l.length ∧ f ≤ k ∧ spl c l = P ++ spl c (l.drop f) ∧ ∀ j, f ≤ j → j < k → l[j]? ≠ some c) ∨ (k = l.length + 1 ∧ f = k ∧ spl c l = P)

theorem SplRel.start (c : UInt8) (l : List UInt8) : SplRel c l [] 0 0 := .inl ⟨Nat.zero_le _, Nat.le_refl _, by simp, fun j _ h => by omega⟩
theorem SplRel.pass {c : UInt8} {l : List UInt8} {P : List (List UInt8)} {f k : Nat} (h : SplRel c l P f k) (hk : k < l.length) (hc : l[k]? ≠ some c) : SplRel c l P f (k + 1) := by
  rcases h with ⟨h1, h2, h3, h4⟩ | ⟨h1, _, _⟩
  · refine .inl ⟨by omega, by omega, h3, fun j a b => ?_⟩
    by_cases e : j = k
    · rw [e]; exact hc
    · exact h4 j a (by omega)
  · omega
theorem SplRel.hit {c : UInt8} {l : List UInt8} {P : List (List UInt8)} {f k : Nat} (h : SplRel c l P f k) (hk : k < l.length) (hc : l[k]? = some c) : SplRel c l (P ++ [(l.drop f).take (k - f)]) (k + 1) (k + 1) := by
  rcases h with ⟨h1, h2, h3, h4⟩ | ⟨h1, _⟩
  · refine .inl ⟨by omega, Nat.le_refl _, ?_, fun j a b => by omega⟩
    rw [h3, spl_at c (l.drop f) (k - f) (by rw [List.getElem?_drop, show f + (k - f) = k by omega]; exact hc) (fun j hj => by rw [List.getElem?_drop]; exact h4 (f + j) (by omega) (by omega))]
    rw [List.drop_drop, show f + (k - f + 1) = k + 1 by omega]
    simp
  · omega
theorem SplRel.last {c : UInt8} {l : List UInt8} {P : List (List UInt8)} {f : Nat} (h : SplRel c l P f l.length) : SplRel c l (P ++ [(l.drop f).take (l.length - f)]) (l.length + 1) (l.length + 1) := by
  rcases h with ⟨_, h2, h3, h4⟩ | ⟨h1, _⟩
  · refine .inr ⟨rfl, rfl, ?_⟩
    rw [h3, spl_none c (l.drop f) (fun b hb e => ?_), List.take_of_length_le (by simp)]
    obtain ⟨j, hj⟩ := List.getElem?_of_mem hb
    rw [List.getElem?_drop, e] at hj
    have hlt : f + j < l.length := by
      rcases Nat.lt_or_ge (f + j) l.length with h | h
      · exact h
      · rw [List.getElem?_eq_none h] at hj; cases hj
    exact h4 (f + j) (by omega) hlt hj
  · omega
theorem SplRel.bound {c : UInt8} {l : List UInt8} {P : List (List UInt8)} {f k : Nat} (h : SplRel c l P f k) : f ≤ l.length + 1 ∧ P.length ≤ l.length + 1 ∧ (k ≤ l.length → f ≤ k ∧ P.length ≤ l.length) := by
  have hl := spl_length c l
  rcases h with ⟨h1, h2, h3, _⟩ | ⟨h1, h2⟩
  · rw [h3] at hl
    have hn := List.length_pos_iff.2 (spl_ne c (l.drop f))
    simp at hl
    exact ⟨by omega, by omega, fun _ => ⟨h2, by omega⟩⟩
  · obtain ⟨h2, h3⟩ := h2
    rw [h3] at hl
    exact ⟨by omega, hl, fun _ => by omega⟩
theorem SplRel.done {c : UInt8} {l : List UInt8} {P : List (List UInt8)} {f k : Nat} (h : SplRel c l P f k) (hk : k = l.length + 1) : spl c l = P := by
  rcases h with ⟨h1, _⟩ | ⟨_, _, h2⟩
  · omega
  · exact h2
end Go.Proofs.Ytppliiingoonlaa

/-
  Plain facts on decimal numerals, of no program: the digits of a number spell it; the reading of a numeral gives the number back.
-/
namespace Go.Proofs.Ytppliiingoonlaa
open Go.Lib
theorem decFrom_append : ∀ (l1 l2 : List UInt8) (acc : Nat), decFrom acc (l1 ++ l2) = (decFrom acc l1).bind fun m => decFrom m l2
  | [], l2, acc => by simp [decFrom]
  | b :: r, l2, acc => by
    simp only [List.cons_append, decFrom]
    cases digitVal b with
    | none => rfl
    | some d => exact decFrom_append r l2 _

theorem digitVal_digit (u : Nat) (h : u < 10) : digitVal (UInt8.ofNat (48 + u)) = some u := by
  have e : (UInt8.ofNat (48 + u)).toNat = 48 + u := by rw [UInt8.toNat_ofNat']; omega
  unfold digitVal
  rw [e, if_pos (by omega)]
  congr 1
  omega

theorem decFrom_dec (u : Nat) : decFrom 0 (decDigits u) = some u := by
  induction u using Nat.strongRecOn with
  | _ u ih =>
    by_cases h : u < 10
    · rw [decDigits_one h]
      simp only [decFrom, digitVal_digit u h]
      congr 1
      omega
    · rw [decDigits, dif_neg h, decFrom_append, ih (u / 10) (by omega)]
      simp only [Option.bind_some, decFrom, digitVal_digit (u % 10) (by omega)]
      congr 1
      omega

theorem decDigits_ne (u : Nat) : decDigits u ≠ [] := by
  intro h
  have := congrArg List.length h
  rw [decDigits_length] at this
  have := nDigits_pos u
  simp at *
  omega

theorem digit_of_mem (u : Nat) : ∀ b ∈ decDigits u, 48 ≤ b.toNat ∧ b.toNat ≤ 57 := by
  intro b hb
  obtain ⟨k, hk⟩ := List.getElem?_of_mem hb
  obtain ⟨d, hd⟩ := digit_of_decFrom _ _ _ (decFrom_dec u) k b hk
  unfold digitVal at hd
  split at hd
  · assumption
  · cases hd

theorem nDigits_le : ∀ (k u : Nat), u < 10 ^ (k + 1) → nDigits u ≤ k + 1
  | 0, u, h => by rw [nDigits_small (by simpa using h)]; exact Nat.le_refl _
  | k + 1, u, h => by
    by_cases hs : u < 10
    · rw [nDigits_small hs]; omega
    · rw [nDigits_big hs]
      have := nDigits_le k (u / 10) (by rw [Nat.pow_succ] at h; omega)
      omega

theorem head_dec (u : Nat) (b : UInt8) (r : List UInt8) (h : b :: r = decDigits u) : b ≠ 45 ∧ b ≠ 43 := by
  have := digit_of_mem u b (by rw [← h]; simp)
  constructor <;> (intro e; subst e; revert this; decide)

/-- A numeral's two makes. -/
theorem itoa_parts (n : Int) : (n < 0 ∧ itoa n = 45 :: decDigits n.natAbs) ∨ (0 ≤ n ∧ itoa n = decDigits n.natAbs) := by
  unfold itoa
  by_cases h : n < 0
  · exact .inl ⟨h, by rw [if_pos h]⟩
  · refine .inr ⟨by omega, ?_⟩
    rw [if_neg h, show n.toNat = n.natAbs by omega]

theorem decNat_dec (u : Nat) : decNat (decDigits u) = some u := by
  unfold decNat
  rw [if_neg (by simpa using decDigits_ne u)]
  exact decFrom_dec u

theorem atoi_itoa (n : Int) : atoi (itoa n) = some n := by
  rcases itoa_parts n with ⟨h, e⟩ | ⟨h, e⟩
  · rw [e]
    simp only [atoi, beq_self_eq_true, if_true]
    rw [decNat_dec]
    simp
    omega
  · rw [e]
    cases hd : decDigits n.natAbs with
    | nil => exact absurd hd (decDigits_ne _)
    | cons b r =>
      obtain ⟨h1, h2⟩ := head_dec n.natAbs b r hd.symm
      have hn := decNat_dec n.natAbs
      rw [hd] at hn
      simp only [atoi]
      rw [if_neg (by simpa using h1), if_neg (by simpa using h2), hn]
      simp
      omega

theorem itoa_inj {a b : Int} (h : itoa a = itoa b) : a = b := by
  have := atoi_itoa a
  rw [h, atoi_itoa b] at this
  exact (Option.some.inj this).symm

theorem itoa_short (n : Int) (h0 : -1000000000000 < n) (h1 : n < 1000000000000) : (itoa n).length ≤ 13 := by
  have h := nDigits_le 11 n.natAbs (by omega)
  rcases itoa_parts n with ⟨_, e⟩ | ⟨_, e⟩ <;> rw [e] <;> simp [decDigits_length] <;> omega

theorem atoiAll_itoa (n : Int) (h0 : -1000000000000 < n) (h1 : n < 1000000000000) : atoiAll (itoa n) = .ok n := by
  rw [atoiAll_short _ (by have := itoa_short n h0 h1; omega), atoi_itoa]
  rfl

/-- What l1Read is to answer: the number in range whose numeral the bytes are, if there is one. -/
def Reading (most : Nat) (l : List UInt8) (v : Int) (ok : Bool) : Prop :=
  (ok = true ∧ l = itoa v ∧ v.natAbs < 10 ^ most) ∨ (ok = false ∧ v = 0 ∧ ∀ n : Int, n.natAbs < 10 ^ most → l ≠ itoa n)

/-- Behind the sign: the digits are too few or too many. -/
theorem Reading.size_neg {most : Nat} {t : List UInt8} (hm : 1 ≤ most) (h : t.length < 1 ∨ most < t.length) : Reading most (45 :: t) 0 false := by
  refine .inr ⟨rfl, rfl, fun n hn e => ?_⟩
  obtain ⟨k, rfl⟩ : ∃ k, most = k + 1 := ⟨most - 1, by omega⟩
  have h1 := nDigits_le k n.natAbs hn
  have h2 := nDigits_pos n.natAbs
  rcases itoa_parts n with ⟨_, e'⟩ | ⟨_, e'⟩
  · rw [e'] at e
    have := congrArg List.length e
    simp [decDigits_length] at this
    omega
  · rw [e'] at e
    exact (head_dec _ _ _ e).1 rfl

theorem Reading.size_pos {most : Nat} {t : List UInt8} (hm : 1 ≤ most) (hh : t.head? ≠ some 45) (h : t.length < 1 ∨ most < t.length) : Reading most t 0 false := by
  refine .inr ⟨rfl, rfl, fun n hn e => ?_⟩
  obtain ⟨k, rfl⟩ : ∃ k, most = k + 1 := ⟨most - 1, by omega⟩
  have h1 := nDigits_le k n.natAbs hn
  have h2 := nDigits_pos n.natAbs
  rcases itoa_parts n with ⟨_, e'⟩ | ⟨_, e'⟩
  · rw [e'] at e
    rw [e] at hh
    simp at hh
  · rw [e'] at e
    have := congrArg List.length e
    simp [decDigits_length] at this
    omega

/-- A byte that is no digit. -/
theorem Reading.byte_neg {most : Nat} {t : List UInt8} {b : UInt8} (hb : b ∈ t) (hd : ¬ (48 ≤ b.toNat ∧ b.toNat ≤ 57)) : Reading most (45 :: t) 0 false := by
  refine .inr ⟨rfl, rfl, fun n _ e => ?_⟩
  rcases itoa_parts n with ⟨_, e'⟩ | ⟨_, e'⟩
  · rw [e'] at e
    rw [(List.cons.inj e).2] at hb
    exact hd (digit_of_mem _ b hb)
  · rw [e'] at e
    exact (head_dec _ _ _ e).1 rfl
theorem Reading.byte_pos {most : Nat} {t : List UInt8} {b : UInt8} (hh : t.head? ≠ some 45) (hb : b ∈ t) (hd : ¬ (48 ≤ b.toNat ∧ b.toNat ≤ 57)) : Reading most t 0 false := by
  refine .inr ⟨rfl, rfl, fun n _ e => ?_⟩
  rcases itoa_parts n with ⟨_, e'⟩ | ⟨_, e'⟩
  · rw [e'] at e
    rw [e] at hh
    simp at hh
  · rw [e'] at e
    rw [e] at hb
    exact hd (digit_of_mem _ b hb)

/-- All digits: the number that they spell, and its numeral held against the bytes. -/
theorem Reading.num_neg {most m : Nat} {t : List UInt8} (hl : t.length ≤ most) (h : decFrom 0 t = some m) (ok : Bool) (hok : ok = decide (itoa (-(m : Int)) = 45 :: t)) : Reading most (45 :: t) (if ok then -(m : Int) else 0) ok := by
  have hlt := decFrom_lt _ _ _ h
  simp only [Nat.zero_add, Nat.one_mul] at hlt
  have hp : 10 ^ t.length ≤ 10 ^ most := Nat.pow_le_pow_right (by omega) hl
  cases ok with
  | true => exact .inl ⟨rfl, (of_decide_eq_true hok.symm).symm, by simp; omega⟩
  | false =>
    refine .inr ⟨rfl, rfl, fun n _ e => of_decide_eq_false hok.symm ?_⟩
    rcases itoa_parts n with ⟨hn, e'⟩ | ⟨_, e'⟩
    · rw [e'] at e
      rw [(List.cons.inj e).2, decFrom_dec] at h
      have : -(m : Int) = n := by have := Option.some.inj h; omega
      rw [this, e', (List.cons.inj e).2]
    · rw [e'] at e
      exact absurd rfl (head_dec _ _ _ e).1
theorem Reading.num_pos {most m : Nat} {t : List UInt8} (hh : t.head? ≠ some 45) (hl : t.length ≤ most) (h : decFrom 0 t = some m) (ok : Bool) (hok : ok = decide (itoa (m : Int) = t)) : Reading most t (if ok then (m : Int) else 0) ok := by
  have hlt := decFrom_lt _ _ _ h
  simp only [Nat.zero_add, Nat.one_mul] at hlt
  have hp : 10 ^ t.length ≤ 10 ^ most := Nat.pow_le_pow_right (by omega) hl
  cases ok with
  | true => exact .inl ⟨rfl, (of_decide_eq_true hok.symm).symm, by simp; omega⟩
  | false =>
    refine .inr ⟨rfl, rfl, fun n _ e => of_decide_eq_false hok.symm ?_⟩
    rcases itoa_parts n with ⟨_, e'⟩ | ⟨hn, e'⟩
    · rw [e'] at e
      rw [e] at hh
      simp at hh
    · rw [e'] at e
      rw [e, decFrom_dec] at h
      have : (m : Int) = n := by have := Option.some.inj h; omega
      rw [this, e', e]
end Go.Proofs.Ytppliiingoonlaa

/-
  Constraints as plain data: which are valid, their text, and what a text is read as; the text of a valid constraint is read as the constraint. Of no function of the program.
-/
namespace Go.Proofs.Ytppliiingoonlaa
open Go.RowKit
structure Cn where
  k : Int
  l : List UInt8
  r : List UInt8
  x : Nd
  cs : List Int
  b : Int
def zeroNd : Nd := (0, ⟨#[]⟩, .nil)
def zeroCn : Cn := ⟨0, [], [], zeroNd, [], 0⟩
def isZ (x : Nd) : Bool := decide (x.1 = 0) && decide (x.2.1.size = 0) && decide (x.2.2.items.length = 0)
def inR (lo hi z : Int) : Bool := decide (lo ≤ z) && decide (z ≤ hi)
def validC (c : Cn) : Bool :=
  if c.k = 1 ∨ c.k = 2 then isT c.l && isT c.r && isZ c.x && (decide (c.cs.length = 0) && decide (c.b = 0))
  else if c.k = 3 ∨ c.k = 4 then isT c.l && decide (c.r.length = 0) && validRx c.x.1 c.x.2.1 c.x.2.2 && (decide (c.cs.length = 0) && decide (c.b = 0))
  else if c.k = 5 then decide (c.l.length = 0) && decide (c.r.length = 0) && isZ c.x && (c.cs.all (inR (-9) 9) && decide (c.cs.length = 3)) && inR (-99) 99 c.b
  else false
/-- A term's text: a dash for none. -/
def termT (l : List UInt8) : List UInt8 := if l = [] then [45] else l
def numsT (l : List Int) : List UInt8 := l.flatMap fun z => 32 :: Lib.itoa z
def bodyT (c : Cn) : List UInt8 :=
  if c.k = 1 then termT c.l ++ [32, 61, 32] ++ termT c.r
  else if c.k = 2 then termT c.l ++ [32, 33, 61, 32] ++ termT c.r
  else if c.k = 3 then termT c.l ++ [32, 105, 110, 32] ++ ndTxt c.x
  else if c.k = 4 then termT c.l ++ [32, 111, 117, 116, 32] ++ ndTxt c.x
  else [108, 101, 110] ++ numsT c.cs ++ 32 :: Lib.itoa c.b
def fmtC (c : Cn) : List UInt8 := if validC c then bodyT c else []
def readT (s : List UInt8) : List UInt8 := if s = [45] then [] else s
def readX (s : List UInt8) : Nd := (parseAll s).getD zeroNd
/-- The number that a text is, or 0. -/
noncomputable def readN (s : List UInt8) : Int := @dite _ (∃ n : Int, -999999999999 ≤ n ∧ n ≤ 999999999999 ∧ s = Lib.itoa n) (Classical.propDecidable _) (fun h => Classical.choose h) (fun _ => 0)
theorem readN_itoa {n : Int} (h0 : -999999999999 ≤ n) (h1 : n ≤ 999999999999) : readN (Lib.itoa n) = n := by
  have h : ∃ m : Int, -999999999999 ≤ m ∧ m ≤ 999999999999 ∧ Lib.itoa n = Lib.itoa m := ⟨n, h0, h1, rfl⟩
  unfold readN
  rw [dif_pos h]
  exact (itoa_inj (Classical.choose_spec h).2.2).symm
noncomputable def lenC (ws : List (List UInt8)) : Cn := ⟨5, [], [], zeroNd, ((ws.drop 1).take (ws.length - 2)).map readN, readN (ws.getLastD [])⟩
noncomputable def parseC (ws : List (List UInt8)) : Cn :=
  if ws.headD [] = [108, 101, 110] then lenC ws
  else if ws.length ≠ 3 then zeroCn
  else if ws.getD 1 [] = [61] then ⟨1, readT (ws.getD 0 []), readT (ws.getD 2 []), zeroNd, [], 0⟩
  else if ws.getD 1 [] = [33, 61] then ⟨2, readT (ws.getD 0 []), readT (ws.getD 2 []), zeroNd, [], 0⟩
  else if ws.getD 1 [] = [105, 110] then ⟨3, readT (ws.getD 0 []), [], readX (ws.getD 2 []), [], 0⟩
  else if ws.getD 1 [] = [111, 117, 116] then ⟨4, readT (ws.getD 0 []), [], readX (ws.getD 2 []), [], 0⟩
  else ⟨0, readT (ws.getD 0 []), [], zeroNd, [], 0⟩

/-- No blank. -/
def noSp (l : List UInt8) : Prop := ∀ b ∈ l, b ≠ 32
theorem noSp.app {a b : List UInt8} (h : noSp a) (h' : noSp b) : noSp (a ++ b) := fun x hx => (List.mem_append.1 hx).elim (h x) (h' x)
theorem spl_app {a b : List UInt8} (h : noSp a) : spl 32 (a ++ 32 :: b) = a :: spl 32 b := by
  have k := spl_at 32 (a ++ 32 :: b) a.length (by simp) (fun j hj e => by
    rw [List.getElem?_append_left hj] at e
    exact h 32 (List.mem_of_getElem? e) rfl)
  rw [k]
  simp
theorem noSp_letters {l : List UInt8} (h : l.all tLet = true) : noSp l := fun b hb e => by
  have := List.all_eq_true.1 h b hb
  rw [e] at this
  revert this
  decide
theorem isT_all' {l : List UInt8} (h : isT l = true) : l.all tLet = true := by
  unfold isT at h
  rw [Bool.and_eq_true] at h
  exact h.1
theorem noSp_term {l : List UInt8} (h : isT l = true) : noSp (termT l) := by
  unfold termT
  split
  · intro b hb
    simp at hb
    subst hb
    decide
  · exact noSp_letters (isT_all' h)
theorem readT_term {l : List UInt8} (h : isT l = true) : readT (termT l) = l := by
  unfold termT readT
  by_cases h0 : l = []
  · rw [if_pos h0, if_pos rfl, h0]
  · rw [if_neg h0, if_neg]
    rintro rfl
    have := isT_all' h
    revert this
    decide
theorem term_not_len {l : List UInt8} (h : isT l = true) : termT l ≠ [108, 101, 110] := by
  unfold termT
  split
  · decide
  · intro e
    have := isT_all' h
    rw [e] at this
    revert this
    decide
theorem noSp_dec (u : Nat) : noSp (Lib.decDigits u) := fun b hb e => by
  have := (digit_of_mem u b hb).1
  rw [e] at this
  revert this
  decide
theorem noSp_itoa (n : Int) : noSp (Lib.itoa n) := by
  rcases itoa_parts n with ⟨_, h⟩ | ⟨_, h⟩
  · rw [h]
    intro b hb
    rcases List.mem_cons.1 hb with rfl | hb
    · decide
    · exact noSp_dec _ b hb
  · rw [h]
    exact noSp_dec _
theorem noSp_getD {ts : List (List UInt8)} (h : ∀ t ∈ ts, noSp t) (j : Nat) : noSp (ts.getD j []) := by
  rw [List.getD_eq_getElem?_getD]
  cases hj : ts[j]? with
  | none => intro b hb; simp at hb
  | some x => exact h x (List.mem_of_getElem? hj)
theorem noSp_cons {b : UInt8} {l : List UInt8} (hb : b ≠ 32) (h : noSp l) : noSp (b :: l) := fun x hx => by
  rcases List.mem_cons.1 hx with rfl | hx
  · exact hb
  · exact h x hx
theorem noSp_nil : noSp [] := fun b hb => by simp at hb
theorem noSp_sign (k : Int) : noSp (signOf k) := by
  unfold signOf
  split
  · exact noSp_cons (by decide) noSp_nil
  · split
    · exact noSp_cons (by decide) noSp_nil
    · exact noSp_nil
theorem noSp_nodeTxt {k : Int} {l : ByteArray} {ts : List (List UInt8)} (h : ∀ t ∈ ts, noSp t) (hl : k = 3 → noSp l.data.toList) : noSp (nodeTxt k l ts) := by
  unfold nodeTxt
  split
  · exact noSp_cons (by decide) noSp_nil
  split
  · exact noSp_cons (by decide) noSp_nil
  split
  · rename_i h3
    exact hl h3
  split
  · exact noSp_cons (by decide) noSp_nil
  split
  · exact noSp_cons (by decide) (noSp_getD h 0)
  split
  · exact noSp_cons (by decide) (noSp_getD h 0)
  · exact (((noSp_cons (by decide) (noSp_getD h 0)).app (noSp_sign k)).app (noSp_getD h 1)).app (noSp_cons (by decide) noSp_nil)
theorem letter_noSp {k : Int} {l : ByteArray} {m : Nat} (h : nodeOk k l m = true) : k = 3 → noSp l.data.toList := fun h3 => by
  unfold nodeOk at h
  rw [if_pos h3] at h
  simp only [Bool.and_eq_true] at h
  have hw := h.1.2
  unfold isW at hw
  rw [Bool.and_eq_true] at hw
  intro b hb e
  have := List.all_eq_true.1 hw.1 b hb
  rw [e] at this
  revert this
  decide
theorem noSp_texts : ∀ a : Fr, allRow a = true → ∀ t ∈ texts a, noSp t
  | .nil, _, t, ht => by simp [texts] at ht
  | .cons k l a r, h, t, ht => by
    simp only [allRow, Bool.and_eq_true] at h
    obtain ⟨⟨h1, h2⟩, h3⟩ := h
    rw [texts] at ht
    rcases List.mem_cons.1 ht with rfl | ht
    · exact noSp_nodeTxt (noSp_texts a h1) (letter_noSp h2)
    · exact noSp_texts r h3 t ht
theorem noSp_rx {x : Nd} (h : validRx x.1 x.2.1 x.2.2 = true) : noSp (ndTxt x) := by
  unfold validRx at h
  simp only [Bool.and_eq_true] at h
  exact noSp_nodeTxt (noSp_texts _ h.2.1) (letter_noSp h.2.2)
theorem readX_text {x : Nd} (h : validRx x.1 x.2.1 x.2.2 = true) : readX (ndTxt x) = x := by
  obtain ⟨k, l, a⟩ := x
  unfold readX
  rw [show ndTxt (k, l, a) = nodeTxt k l (texts a) from rfl, parseAll_text h]
  rfl
theorem spl_three {a b d : List UInt8} (ha : noSp a) (hb : noSp b) (hd : noSp d) : spl 32 (a ++ 32 :: (b ++ 32 :: d)) = [a, b, d] := by
  rw [spl_app ha, spl_app hb, spl_none 32 d hd]
theorem cn_ext {c : Cn} {k : Int} {l r : List UInt8} {x : Nd} {cs : List Int} {b : Int} (h1 : c.k = k) (h2 : c.l = l) (h3 : c.r = r) (h4 : c.x = x) (h5 : c.cs = cs) (h6 : c.b = b) : c = ⟨k, l, r, x, cs, b⟩ := by
  cases c
  simp_all
/-- The text of a valid constraint is read as the constraint. -/
theorem isZ_zero {x : Nd} (h : isZ x = true) : x = zeroNd := by
  obtain ⟨k, l, a⟩ := x
  unfold isZ at h
  simp only [Bool.and_eq_true, decide_eq_true_eq] at h
  obtain ⟨⟨h1, h2⟩, h3⟩ := h
  have e2 : l = ⟨#[]⟩ := by
    apply ByteArray.ext
    exact Array.eq_empty_of_size_eq_zero h2
  have e3 : a = .nil := by
    cases a with
    | nil => rfl
    | cons k l a r => simp [Fr.items] at h3
  rw [h1, e2, e3]
  rfl
theorem parse_fmt {c : Cn} (h : validC c = true) : parseC (spl 32 (fmtC c)) = c := by
  have hf : fmtC c = bodyT c := if_pos h
  rw [hf]
  unfold validC at h
  unfold bodyT
  by_cases h1 : c.k = 1
  · rw [if_pos (Or.inl h1)] at h
    simp only [Bool.and_eq_true, decide_eq_true_eq] at h
    obtain ⟨⟨⟨hl, hr⟩, hx⟩, hc, hb⟩ := h
    rw [if_pos h1, show termT c.l ++ [32, 61, 32] ++ termT c.r = termT c.l ++ 32 :: ([61] ++ 32 :: termT c.r) by simp, spl_three (noSp_term hl) (noSp_cons (by decide) noSp_nil) (noSp_term hr)]
    unfold parseC
    rw [if_neg (by simpa using term_not_len hl), if_neg (by simp), if_pos (by rfl)]
    refine (cn_ext h1 ?_ ?_ (isZ_zero hx) (List.length_eq_zero_iff.1 hc) hb).symm
    · exact (readT_term hl).symm
    · exact (readT_term hr).symm
  · by_cases h2 : c.k = 2
    · rw [if_pos (Or.inr h2)] at h
      simp only [Bool.and_eq_true, decide_eq_true_eq] at h
      obtain ⟨⟨⟨hl, hr⟩, hx⟩, hc, hb⟩ := h
      rw [if_neg h1, if_pos h2, show termT c.l ++ [32, 33, 61, 32] ++ termT c.r = termT c.l ++ 32 :: ([33, 61] ++ 32 :: termT c.r) by simp, spl_three (noSp_term hl) (noSp_cons (by decide) (noSp_cons (by decide) noSp_nil)) (noSp_term hr)]
      unfold parseC
      rw [if_neg (by simpa using term_not_len hl), if_neg (by simp), if_neg (by simp), if_pos (by rfl)]
      refine (cn_ext h2 ?_ ?_ (isZ_zero hx) (List.length_eq_zero_iff.1 hc) hb).symm
      · exact (readT_term hl).symm
      · exact (readT_term hr).symm
    · rw [if_neg (by omega)] at h
      by_cases h3 : c.k = 3
      · rw [if_pos (Or.inl h3)] at h
        simp only [Bool.and_eq_true, decide_eq_true_eq] at h
        obtain ⟨⟨⟨hl, hr⟩, hx⟩, hc, hb⟩ := h
        rw [if_neg h1, if_neg h2, if_pos h3, show termT c.l ++ [32, 105, 110, 32] ++ ndTxt c.x = termT c.l ++ 32 :: ([105, 110] ++ 32 :: ndTxt c.x) by simp, spl_three (noSp_term hl) (noSp_cons (by decide) (noSp_cons (by decide) noSp_nil)) (noSp_rx hx)]
        unfold parseC
        rw [if_neg (by simpa using term_not_len hl), if_neg (by simp), if_neg (by simp), if_neg (by simp), if_pos (by rfl)]
        refine (cn_ext h3 ?_ (List.length_eq_zero_iff.1 hr) ?_ (List.length_eq_zero_iff.1 hc) hb).symm
        · exact (readT_term hl).symm
        · exact (readX_text hx).symm
      · by_cases h4 : c.k = 4
        · rw [if_pos (Or.inr h4)] at h
          simp only [Bool.and_eq_true, decide_eq_true_eq] at h
          obtain ⟨⟨⟨hl, hr⟩, hx⟩, hc, hb⟩ := h
          rw [if_neg h1, if_neg h2, if_neg h3, if_pos h4, show termT c.l ++ [32, 111, 117, 116, 32] ++ ndTxt c.x = termT c.l ++ 32 :: ([111, 117, 116] ++ 32 :: ndTxt c.x) by simp, spl_three (noSp_term hl) (noSp_cons (by decide) (noSp_cons (by decide) (noSp_cons (by decide) noSp_nil))) (noSp_rx hx)]
          unfold parseC
          rw [if_neg (by simpa using term_not_len hl), if_neg (by simp), if_neg (by simp), if_neg (by simp), if_neg (by simp), if_pos (by rfl)]
          refine (cn_ext h4 ?_ (List.length_eq_zero_iff.1 hr) ?_ (List.length_eq_zero_iff.1 hc) hb).symm
          · exact (readT_term hl).symm
          · exact (readX_text hx).symm
        · rw [if_neg (by omega)] at h
          by_cases h5 : c.k = 5
          · rw [if_pos h5] at h
            simp only [Bool.and_eq_true, decide_eq_true_eq] at h
            obtain ⟨⟨⟨⟨hl, hr⟩, hx⟩, hcs, h3'⟩, hb⟩ := h
            obtain ⟨k, l, r, x, cs, b⟩ := c
            simp only at h1 h2 h3 h4 h5 hl hr hx hcs h3' hb ⊢
            match cs, h3' with
            | [a, d, e], _ =>
              simp only [List.all_cons, List.all_nil, Bool.and_true, Bool.and_eq_true, inR, decide_eq_true_eq] at hcs hb
              obtain ⟨⟨a1, a2⟩, ⟨d1, d2⟩, e1, e2⟩ := hcs
              rw [if_neg h1, if_neg h2, if_neg h3, if_neg h4, show [108, 101, 110] ++ numsT [a, d, e] ++ 32 :: Lib.itoa b = [108, 101, 110] ++ 32 :: (Lib.itoa a ++ 32 :: (Lib.itoa d ++ 32 :: (Lib.itoa e ++ 32 :: Lib.itoa b))) by simp [numsT]]
              rw [spl_app (noSp_cons (by decide) (noSp_cons (by decide) (noSp_cons (by decide) noSp_nil))), spl_app (noSp_itoa a), spl_app (noSp_itoa d), spl_app (noSp_itoa e), spl_none 32 _ (noSp_itoa b)]
              unfold parseC
              rw [if_pos (by rfl)]
              unfold lenC
              simp only [List.drop, List.take, List.map, List.length, List.getLastD, List.getLast]
              rw [readN_itoa (by omega) (by omega), readN_itoa (by omega) (by omega), readN_itoa (by omega) (by omega), readN_itoa (by omega) (by omega)]
              rw [h5, List.length_eq_zero_iff.1 hl, List.length_eq_zero_iff.1 hr, isZ_zero hx]
          · rw [if_neg h5] at h
            cases h
theorem fmtC_ne {c : Cn} (h : validC c = true) : fmtC c ≠ [] := by
  unfold fmtC
  rw [if_pos h]
  unfold bodyT
  repeat' split
  all_goals simp
end Go.Proofs.Ytppliiingoonlaa

/-
  Plain facts on joining rows of bytes, of no program.
-/
namespace Go.Proofs.Ytppliiingoonlaa
open Go.Lib
theorem join_snoc (x sep : List UInt8) : ∀ l : List (List UInt8), l ≠ [] → join (l ++ [x]) sep = join l sep ++ sep ++ x
  | [], h => absurd rfl h
  | a :: r, _ => by
    rw [List.cons_append, join_cons, join_cons]
    simp [joinTail, List.append_assoc]

theorem join_step {ps : List (List UInt8)} {sep x : List UInt8} {k : Nat} (h : ps[k]? = some x) (hk : 0 < k) : join (ps.take (k + 1)) sep = join (ps.take k) sep ++ sep ++ x := by
  rw [List.take_add_one, h]
  refine join_snoc x sep _ (fun e => ?_)
  have hl : k < ps.length := (List.getElem?_eq_some_iff.1 h).1
  have h0 := congrArg List.length e
  rw [List.length_take, List.length_nil] at h0
  omega
theorem join_first {ps : List (List UInt8)} {sep x : List UInt8} (h : ps[0]? = some x) : join (ps.take 1) sep = x := by
  cases ps with
  | nil => simp at h
  | cons a r =>
    simp at h
    subst h
    simp [join_one]

theorem join_take_le (ps : List (List UInt8)) (sep : List UInt8) (k : Nat) : (join (ps.take k) sep).length ≤ (join ps sep).length := by
  cases ps with
  | nil => simp
  | cons a r =>
    cases k with
    | zero => simp [join_nil]
    | succ k =>
      rw [List.take_succ_cons, join_cons, join_cons]
      have := joinTail_take_le sep r k
      simp
      omega

/-- What Join answers: the joined bytes, none where they are too many. -/
def joined (ps : List (List UInt8)) (sep : List UInt8) : List UInt8 := if (join ps sep).length ≤ 1048576 then join ps sep else []
theorem joined_yes {ps : List (List UInt8)} {sep : List UInt8} (h : (join ps sep).length ≤ 1048576) : joined ps sep = join ps sep := if_pos h
theorem joined_no {ps : List (List UInt8)} {sep : List UInt8} (h : ¬ (join ps sep).length ≤ 1048576) : joined ps sep = [] := if_neg h
theorem elem_le_lens {ps : List (List UInt8)} {k : Nat} {x : List UInt8} (h : ps[k]? = some x) : x.length ≤ lens ps := by
  have h1 := lens_take_succ ps k x h
  have h2 := lens_take_le ps (k + 1)
  omega
end Go.Proofs.Ytppliiingoonlaa

/-
  Plain facts on terms with values: replacing a variable by its word does not change the word of a term; how long the text of values is. Of no program.
-/
namespace Go.Proofs.Ytppliiingoonlaa
open Go.RowKit
theorem limB_id {l : List UInt8} (h : l.length ≤ 1048576) : limB l = l := if_pos h
theorem sub_le {f : UInt8 → List UInt8} {m : Nat} (h : ∀ b, (f b).length ≤ m) : ∀ l : List UInt8, (subL f l).length ≤ l.length * m
  | [] => by simp [subL]
  | b :: r => by
    have h1 := h b
    have h2 := sub_le h r
    unfold subL at h2 ⊢
    rw [List.flatMap_cons, List.length_append, List.length_cons, Nat.add_mul]
    omega
theorem sub_sub (f g : UInt8 → List UInt8) : ∀ l : List UInt8, subL g (subL f l) = subL (fun b => subL g (f b)) l
  | [] => rfl
  | b :: r => by
    have h := sub_sub f g r
    unfold subL at h ⊢
    rw [List.flatMap_cons, List.flatMap_append, h, List.flatMap_cons]
theorem sub_congr {f g : UInt8 → List UInt8} (h : ∀ b, f b = g b) (l : List UInt8) : subL f l = subL g l := by
  rw [show f = g from funext h]
theorem isW_letters {l : List UInt8} (h : isW l = true) : ∀ b ∈ l, isLetter b = true := by
  unfold isW at h
  rw [Bool.and_eq_true] at h
  exact List.all_eq_true.1 h.1
theorem app_letters {x y z : ByteArray} : ∀ {l : List UInt8}, (∀ b ∈ l, isLetter b = true) → subL (appF x y z) l = l
  | [], _ => rfl
  | b :: r, h => by
    have h1 := h b (List.mem_cons_self ..)
    have h2 : isVarB b = false := by
      obtain ⟨_, h3, h4⟩ := letIdx_yes h1
      simp [isVarB]
      omega
    have ih := app_letters (x := x) (y := y) (z := z) (l := r) (fun c hc => h c (List.mem_cons_of_mem _ hc))
    unfold subL at ih ⊢
    rw [List.flatMap_cons, ih]
    unfold appF
    rw [h2]
    rfl
theorem val_word {x y z : ByteArray} (h : isV x y z = true) (b : UInt8) : isW (valB x y z b).data.toList = true := by
  unfold isV at h
  rw [Bool.and_eq_true, Bool.and_eq_true] at h
  obtain ⟨⟨h1, h2⟩, h3⟩ := h
  unfold valB
  split
  · exact h1
  · split
    · exact h2
    · split
      · exact h3
      · rfl
/-- Replacing a variable by its word does not change the word of a term. -/
theorem apply_rep {x y z : ByteArray} (h : isV x y z = true) {b0 : UInt8} (hb : isVarB b0 = true) (l : List UInt8) : subL (appF x y z) (subL (repF b0 (valB x y z b0)) l) = subL (appF x y z) l := by
  rw [sub_sub]
  refine sub_congr (fun b => ?_) l
  by_cases hbb : b = b0
  · subst hbb
    rw [show repF b (valB x y z b) b = (valB x y z b).data.toList from if_pos rfl, app_letters (isW_letters (val_word h b))]
    unfold appF
    rw [hb]
    rfl
  · rw [show repF b0 (valB x y z b0) b = [b] from if_neg hbb]
    unfold subL
    simp
theorem app_le {x y z : ByteArray} (hx : x.size ≤ 31) (hy : y.size ≤ 31) (hz : z.size ≤ 31) (b : UInt8) : (appF x y z b).length ≤ 31 := by
  unfold appF
  split
  · have := valB_le (n := 31) hx hy hz b
    simpa using this
  · simp
theorem rep_le {t : ByteArray} (ht : t.size ≤ 31) (b0 b : UInt8) : (repF b0 t b).length ≤ 31 := by
  unfold repF
  split
  · simpa using ht
  · simp
theorem varsL_cnt (l : List UInt8) {b : UInt8} (hb : b ∈ vars3) : (0 < cntL (varsL l) b) ↔ (0 < cntL l b) := by
  unfold cntL varsL
  rw [List.count_pos_iff, List.count_pos_iff, List.mem_filter]
  constructor
  · rintro ⟨_, h⟩
    simpa using h
  · intro h
    exact ⟨hb, by simpa using h⟩
theorem withV_val (x y z s : ByteArray) {b : UInt8} (h : b = 88 ∨ b = 89 ∨ b = 90) : valB (if b = 88 then s else x) (if b = 89 then s else y) (if b = 90 then s else z) b = s := by
  rcases h with rfl | rfl | rfl <;> rfl
theorem varsL_eq (l : List UInt8) : varsL l = (if l.contains 88 then [88] else []) ++ ((if l.contains 89 then [89] else []) ++ (if l.contains 90 then [90] else [])) := by
  unfold varsL vars3
  simp only [List.filter_cons, List.filter_nil]
  cases l.contains 88 <;> cases l.contains 89 <;> cases l.contains 90 <;> rfl
theorem cnt3_le (l : List UInt8) : l.count 88 + l.count 89 + l.count 90 ≤ l.length := by
  induction l with
  | nil => simp
  | cons b r ih =>
    simp only [List.count_cons, List.length_cons]
    by_cases h0 : b = 88
    · subst h0
      simp
      omega
    · by_cases h1 : b = 89
      · subst h1
        simp
        omega
      · by_cases h2 : b = 90
        · subst h2
          simp
          omega
        · simp [h0, h1, h2]
          omega
theorem cont_cnt {l : List UInt8} {b : UInt8} (h : l.contains b = true) : 1 ≤ l.count b := List.count_pos_iff.2 (by simpa using h)
/-- How long the text of values is. -/
theorem fmt_len (x y z : ByteArray) (l : List UInt8) : (Lib.join (partsV x y z (varsL l)) [32]).length ≤ x.size + y.size + z.size + 3 * (varsL l).length - 1 ∧ Lib.lens (partsV x y z (varsL l)) ≤ x.size + y.size + z.size + 2 * (varsL l).length ∧ (varsL l).length ≤ l.length ∧ (varsL l).length ≤ 3 := by
  have hc := cnt3_le l
  have v0 : valB x y z 88 = x := rfl
  have v1 : valB x y z 89 = y := rfl
  have v2 : valB x y z 90 = z := rfl
  rw [varsL_eq]
  cases h0 : l.contains 88 with
  | true =>
    have k0 := cont_cnt h0
    cases h1 : l.contains 89 with
    | true =>
      have k1 := cont_cnt h1
      cases h2 : l.contains 90 with
      | true =>
        have k2 := cont_cnt h2
        simp [partsV, partV, Lib.join, Lib.lens, v0, v1, v2]
        omega
      | false =>
        simp [partsV, partV, Lib.join, Lib.lens, v0, v1]
        omega
    | false =>
      cases h2 : l.contains 90 with
      | true =>
        have k2 := cont_cnt h2
        simp [partsV, partV, Lib.join, Lib.lens, v0, v2]
        omega
      | false =>
        simp [partsV, partV, Lib.join, Lib.lens, v0]
        omega
  | false =>
    cases h1 : l.contains 89 with
    | true =>
      have k1 := cont_cnt h1
      cases h2 : l.contains 90 with
      | true =>
        have k2 := cont_cnt h2
        simp [partsV, partV, Lib.join, Lib.lens, v1, v2]
        omega
      | false =>
        simp [partsV, partV, Lib.join, Lib.lens, v1]
        omega
    | false =>
      cases h2 : l.contains 90 with
      | true =>
        have k2 := cont_cnt h2
        simp [partsV, partV, Lib.join, Lib.lens, v2]
        omega
      | false => simp [partsV, Lib.join, Lib.lens]
end Go.Proofs.Ytppliiingoonlaa

/-
  Which parts of a word belong to the language of an expression: by places, and by words; the derivative. Of no function of the program.
-/
namespace Go.Proofs.Ytppliiingoonlaa
open Go.RowKit
/-- Whether the part between two places belongs to a language. -/
abbrev Mt := Nat → Nat → Bool
def botM : Mt := fun _ _ => false
def starN (p : Mt) : Nat → Mt
  | 0, i, j => decide (i = j)
  | f + 1, i, j => decide (i = j) || (List.range (j - i)).any fun d => p i (i + d + 1) && starN p f (i + d + 1) j
def starM (p : Mt) (i j : Nat) : Bool := starN p (j - i) i j
def catM (p q : Mt) (i j : Nat) : Bool := (List.range (j + 1 - i)).any fun d => p i (i + d) && q (i + d) j
/-- The part from i to j. -/
def part (s : List UInt8) (i j : Nat) : List UInt8 := (s.drop i).take (j - i)
def nodeM (s : List UInt8) (k : Int) (l : List UInt8) (ms : List Mt) : Mt := fun i j =>
  if k = 2 then decide (i = j) else if k = 3 then decide (part s i j = l) else if k = 4 then decide (j = i + 1)
  else if k = 5 then catM (ms.getD 0 botM) (ms.getD 1 botM) i j
  else if k = 6 then ms.getD 0 botM i j || ms.getD 1 botM i j
  else if k = 7 then ms.getD 0 botM i j && ms.getD 1 botM i j
  else if k = 8 then starM (ms.getD 0 botM) i j
  else if k = 9 then !(ms.getD 0 botM i j) else false
def mts (s : List UInt8) : Fr → List Mt
  | .nil => []
  | .cons k l a r => nodeM s k l.data.toList (mts s a) :: mts s r
theorem mts_items (s : List UInt8) : ∀ f : Fr, mts s f = f.items.map fun x => nodeM s x.1 x.2.1.data.toList (mts s x.2.2)
  | .nil => rfl
  | .cons k l a r => by simp [mts, Fr.items, mts_items s r]
theorem mts_len (s : List UInt8) (f : Fr) : (mts s f).length = f.items.length := by rw [mts_items]; simp
theorem mts_at {s : List UInt8} {f : Fr} {j : Nat} {k : Int} {l : ByteArray} {a : Fr} (h : f.items[j]? = some (k, l, a)) : (mts s f).getD j botM = nodeM s k l.data.toList (mts s a) := by
  rw [mts_items, List.getD_eq_getElem?_getD, List.getElem?_map, h]
  rfl

/-- A way from place to place, each part in the language. -/
inductive Path (p : Mt) : Nat → Nat → Prop
  | refl (i : Nat) : Path p i i
  | step {i m j : Nat} : i < m → p i m = true → Path p m j → Path p i j
theorem Path.le {p : Mt} : ∀ {i j : Nat}, Path p i j → i ≤ j
  | _, _, .refl _ => Nat.le_refl _
  | _, _, .step h _ r => Nat.le_trans (Nat.le_of_lt h) r.le
theorem Path.snoc {p : Mt} : ∀ {i m j : Nat}, Path p i m → m < j → p m j = true → Path p i j
  | _, _, _, .refl _, h, hp => .step h hp (.refl _)
  | _, _, _, .step h hp r, h', hp' => .step h hp (r.snoc h' hp')
theorem Path.last {p : Mt} : ∀ {i j : Nat}, Path p i j → i = j ∨ ∃ m, i ≤ m ∧ m < j ∧ Path p i m ∧ p m j = true
  | _, _, .refl _ => .inl rfl
  | i, j, .step (m := m) h hp r => by
    rcases r.last with e | ⟨x, h1, h2, h3, h4⟩
    · exact .inr ⟨i, Nat.le_refl _, by omega, .refl _, by rw [← e]; exact hp⟩
    · exact .inr ⟨x, by omega, h2, .step h hp h3, h4⟩
theorem starN_iff (p : Mt) : ∀ (f i j : Nat), j - i ≤ f → (starN p f i j = true ↔ Path p i j)
  | 0, i, j, h => by
    simp only [starN, decide_eq_true_eq]
    constructor
    · rintro rfl
      exact .refl _
    · intro hp
      have := hp.le
      omega
  | f + 1, i, j, h => by
    simp only [starN, Bool.or_eq_true, decide_eq_true_eq, List.any_eq_true, List.mem_range, Bool.and_eq_true]
    constructor
    · rintro (rfl | ⟨d, hd, h1, h2⟩)
      · exact .refl _
      · exact .step (by omega) h1 ((starN_iff p f _ _ (by omega)).1 h2)
    · intro hp
      cases hp with
      | refl => exact .inl rfl
      | step h1 h2 h3 =>
        rename_i m
        have := h3.le
        refine .inr ⟨m - i - 1, by omega, ?_, ?_⟩
        · rw [show i + (m - i - 1) + 1 = m by omega]; exact h2
        · rw [show i + (m - i - 1) + 1 = m by omega]; exact (starN_iff p f _ _ (by omega)).2 h3
theorem starM_iff {p : Mt} {i j : Nat} : starM p i j = true ↔ Path p i j := starN_iff p _ i j (Nat.le_refl _)
theorem starM_self (p : Mt) (i : Nat) : starM p i i = true := starM_iff.2 (.refl i)
theorem starM_no {p : Mt} {i j : Nat} (h : i ≠ j) (hn : ∀ m, i < m → m ≤ j → (p i m && starM p m j) = false) : starM p i j = false := by
  rw [← Bool.not_eq_true]
  intro ht
  cases starM_iff.1 ht with
  | refl => exact h rfl
  | step h1 h2 h3 =>
    have := hn _ h1 h3.le
    rw [h2, starM_iff.2 h3] at this
    exact absurd this (by decide)
theorem starM_yes {p : Mt} {i m j : Nat} (h : i < m) (h1 : p i m = true) (h2 : starM p m j = true) : starM p i j = true := starM_iff.2 (.step h h1 (starM_iff.1 h2))
theorem starM_snoc {p : Mt} {i m j : Nat} (h : m < j) (h1 : starM p i m = true) (h2 : p m j = true) : starM p i j = true := starM_iff.2 ((starM_iff.1 h1).snoc h h2)
theorem starM_none {p : Mt} {i j : Nat} (h : i ≠ j) (hn : ∀ m, i ≤ m → m < j → (starM p i m && p m j) = false) : starM p i j = false := by
  rw [← Bool.not_eq_true]
  intro ht
  rcases (starM_iff.1 ht).last with e | ⟨m, h1, h2, h3, h4⟩
  · exact h e
  · have := hn m h1 h2
    rw [starM_iff.2 h3, h4] at this
    exact absurd this (by decide)
theorem catM_yes {p q : Mt} {i m j : Nat} (h1 : i ≤ m) (h2 : m ≤ j) (h : (p i m && q m j) = true) : catM p q i j = true := by
  simp only [catM, List.any_eq_true, List.mem_range]
  refine ⟨m - i, by omega, ?_⟩
  rw [show i + (m - i) = m by omega]
  exact h
theorem catM_no {p q : Mt} {i j : Nat} (hn : ∀ m, i ≤ m → m ≤ j → (p i m && q m j) = false) : catM p q i j = false := by
  simp only [catM, List.any_eq_false, List.mem_range, Bool.not_eq_true]
  exact fun d hd => hn _ (by omega) (by omega)
end Go.Proofs.Ytppliiingoonlaa
