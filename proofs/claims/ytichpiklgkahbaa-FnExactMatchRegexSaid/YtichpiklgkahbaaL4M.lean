/-
  What the model's work says of parts of the word; what its tables hold. Of no function of the program.
-/
import Derived.Test.YtichpiklgkahbaaL4S
namespace Go.Proofs.Ytichpiklgkahbaa
open Go.RowKit

def codeM (b : Bool) : Int := if b then 1 else 2
theorem codeM_ne (b : Bool) : codeM b ≠ 0 := by cases b <;> decide
theorem codeM_one (b : Bool) : (codeM b == 1) = b := by cases b <;> decide
theorem codeM_two (b : Bool) : (codeM b == 2) = !b := by cases b <;> decide
def mOf (D : List Ent) (x : Nat) : Mt := (D[x]?.map Ent.m).getD botM
theorem mOf_at {D : List Ent} {x : Nat} {e : Ent} (h : D[x]? = some e) : mOf D x = e.m := by simp [mOf, h]
/-- Every node says what its kind says of its arguments, which come before it. -/
def Wf (s : List UInt8) (D : List Ent) : Prop := ∀ (n : Nat) (e : Ent), D[n]? = some e → (∀ x ∈ e.ar, x < n) ∧ nodeOk e.k e.l e.ar.length = true ∧ e.m = nodeM s e.k e.l.data.toList (e.ar.map (mOf D))
/-- The tables of the nodes before n hold nothing wrong. -/
def OkM (N : Nat) (D : List Ent) (mem : Mem) (n : Nat) : Prop := ∀ (n' : Nat) (e : Ent), n' < n → D[n']? = some e → ∀ i j, i ≤ N → j ≤ N → mem n' i j = 0 ∨ mem n' i j = codeM (e.m i j)
theorem OkM.mono {N : Nat} {D : List Ent} {mem : Mem} {n n' : Nat} (h : OkM N D mem n) (hn : n' ≤ n) : OkM N D mem n' := fun k e hk => h k e (Nat.lt_of_lt_of_le hk hn)
theorem OkM.next {N : Nat} {D : List Ent} {mem mem' : Mem} {n x : Nat} (h : OkM N D mem n) (hx : OkM N D mem' (x + 1)) (hs : ∀ n', x < n' → mem' n' = mem n') : OkM N D mem' n := fun k e hk he i j hi hj => by
  by_cases hkx : k < x + 1
  · exact hx k e hkx he i j hi hj
  · rw [hs k (by omega)]
    exact h k e hk he i j hi hj
theorem OkM.put {N : Nat} {D : List Ent} {mem : Mem} {n m i j : Nat} {v : Int} (h : OkM N D mem n) (hm : n ≤ m) : OkM N D (mem.put m i j v) n := fun k e hk he i' j' hi hj => by
  rw [Mem.put_ne _ _ (fun h => by omega)]
  exact h k e hk he i' j' hi hj
/-- .. a node's own table. -/
def OkN (N : Nat) (e : Ent) (t : Nat → Nat → Int) : Prop := ∀ i j, i ≤ N → j ≤ N → t i j = 0 ∨ t i j = codeM (e.m i j)
theorem OkM.last {N : Nat} {D : List Ent} {mem : Mem} {n : Nat} {e : Ent} (he : D[n]? = some e) (h : OkM N D mem n) (ho : OkN N e (mem n)) : OkM N D mem (n + 1) := fun k e' hk he' i j hi hj => by
  by_cases hkn : k = n
  · subst hkn
    cases he.symm.trans he'
    exact ho i j hi hj
  · exact h k e' (by omega) he' i j hi hj
theorem OkM.own {N : Nat} {D : List Ent} {mem : Mem} {n : Nat} {e : Ent} (he : D[n]? = some e) (h : OkM N D mem (n + 1)) : OkN N e (mem n) := fun i j hi hj => h n e (Nat.lt_succ_self _) he i j hi hj

section
variable (base zb : Nat) (s : ByteArray) (N : Nat) (D : List Ent) (vN vA vM : Value) (xsN xsA xsM : List Value)
/-- What asking for node x, from a node n behind it, gives. -/
def KidC (n x : Nat) (M : Mt) : Prop := ∀ i j, i ≤ j → j ≤ N → ∀ w mem, Zs w base zb s N D mem vN vA vM xsN xsA xsM → OkM N D mem n →
  Calls Try.prog 68 #[.pointer (some ⟨zb, 0, none⟩), .int .i64 (x : Int), .int .i64 (i : Int), .int .i64 (j : Int)] w fun e w' => ∃ mem', e = .returned (.bool (M i j)) ∧
    Zs w' base zb s N D mem' vN vA vM xsN xsA xsM ∧ OkM N D mem' n ∧ (∀ n', n ≤ n' → mem' n' = mem n') ∧ Below base w w'
/-- What finding a part out gives. -/
def FindC (n : Nat) (e : Ent) : Prop := ∀ i j, i ≤ j → j ≤ N → ∀ w mem, Zs w base zb s N D mem vN vA vM xsN xsA xsM → OkM N D mem n →
  Calls Try.prog 83 #[.pointer (some ⟨zb, 0, none⟩), .int .i64 (n : Int), .int .i64 (i : Int), .int .i64 (j : Int)] w fun e' w' => ∃ mem', e' = .returned (.bool (e.m i j)) ∧
    Zs w' base zb s N D mem' vN vA vM xsN xsA xsM ∧ OkM N D mem' n ∧ (∀ n', n ≤ n' → mem' n' = mem n') ∧ Below base w w'
end
end Go.Proofs.Ytichpiklgkahbaa
