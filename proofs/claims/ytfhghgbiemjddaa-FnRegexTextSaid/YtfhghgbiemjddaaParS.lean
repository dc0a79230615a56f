/-
  What spec.l3Take answers: whether the text goes on with a byte, which is then taken.
-/
import Derived.Test.YtfhghgbiemjddaaParMath
import Derived.Test.YtfhghgbiemjddaaParI
import Derived.Test.YtfhghgbiemjddaaFormatS
import Derived.Deep.QuietTactic
import Derived.BigQuiet
import Derived.Outline
namespace Go.Proofs.Ytfhghgbiemjddaa
open Go.RowKit

/-- The reader lies in block g: its text, the place it has come to, whether it has failed. -/
def St (w : World) (g : Nat) (s : ByteArray) (p : Nat) (bad : Bool) : Prop := w.heap[g]? = some (.cells #[.string s, .int .i64 p, .bool bad] 62 (0, 0))
theorem St.cells {w : World} {g : Nat} {s : ByteArray} {p : Nat} {bad : Bool} (h : St w g s p bad) : w.cell? ⟨g, 0, none⟩ = some (.string s) ∧ w.cell? ⟨g, 1, none⟩ = some (.int .i64 p) ∧ w.cell? ⟨g, 2, none⟩ = some (.bool bad) ∧ w.frozen? ⟨g, 1, none⟩ = false ∧ w.frozen? ⟨g, 2, none⟩ = false :=
  ⟨(cell_of_row w g 0 _ _ (0, 0) h).trans rfl, (cell_of_row w g 1 _ _ (0, 0) h).trans rfl, (cell_of_row w g 2 _ _ (0, 0) h).trans rfl, frozen_of_row w g 1 _ _ h, frozen_of_row w g 2 _ _ h⟩
theorem St.lt {w : World} {g : Nat} {s : ByteArray} {p : Nat} {bad : Bool} (h : St w g s p bad) : g < w.heap.size := (Array.getElem?_eq_some_iff.1 h).1
theorem St.same {w w' : World} {g : Nat} {s : ByteArray} {p : Nat} {bad : Bool} (h : St w g s p bad) (hs : w'.heap[g]? = w.heap[g]?) : St w' g s p bad := hs.trans h

def TakePost (g : Nat) (s : ByteArray) (p : Nat) (bad yes : Bool) (w : World) (e : Ending) (w' : World) : Prop :=
  e = .returned (.bool yes) ∧ St w' g s (if yes then p + 1 else p) bad ∧ w.grownBy w' (some g) ∧ w'.heap.size = w.heap.size
theorem grown_quiet (w : World) (n : Nat) (row : Option Nat) : w.grownBy (w.drewN n) row := ⟨rfl, rfl, rfl, Nat.le_refl _, fun _ _ _ => rfl⟩

set_option maxRecDepth 100000 in
set_option maxHeartbeats 800000 in
theorem take_bad (c : UInt8) (g : Nat) (s : ByteArray) (p : Nat) (w : World) (h : St w g s p true) : Calls Try.prog 54 #[.pointer (some ⟨g, 0, none⟩), .string ⟨#[c]⟩] w (TakePost g s p true false w) := by
  obtain ⟨c0, c1, c2, f1, f2⟩ := h.cells
  have HH := Lib.hid h
  clear h
  go_enter Try.func54, Try.ntmps54
  go_wp2_with fail
  go_quiet (fail)
  go_wp2_with fail
  go_ret
  exact ⟨rfl, HH.out, grown_quiet _ _ _, rfl⟩
set_option maxRecDepth 100000 in
set_option maxHeartbeats 800000 in
theorem take_end (c : UInt8) (g : Nat) (s : ByteArray) (p : Nat) (w : World) (h : St w g s p false) (hs : s.size ≤ 1048576) (hp : s.data.toList.drop p = []) (hps : p ≤ s.size) : Calls Try.prog 54 #[.pointer (some ⟨g, 0, none⟩), .string ⟨#[c]⟩] w (TakePost g s p false false w) := by
  obtain ⟨c0, c1, c2, f1, f2⟩ := h.cells
  have HH := Lib.hid h
  have hge : s.size ≤ p := by
    have := List.drop_eq_nil_iff.1 hp
    simpa using this
  clear h hp
  go_enter Try.func54, Try.ntmps54
  go_wp2_with fail
  have s1 : IntKind.i64.wrap ((p : Int) + 1) = (p : Int) + 1 := IntWalk.i64_in _ (by omega)
  have d1 : decide ((s.size : Int) < (p : Int) + 1) = true := by simp; omega
  clear hs hps hge
  go_quiet (fail)
  go_wp2_with fail
  go_ret
  exact ⟨rfl, HH.out, grown_quiet _ _ _, rfl⟩
theorem at_place {s : ByteArray} {p : Nat} {b : UInt8} {r : List UInt8} (h : s.data.toList.drop p = b :: r) : p < s.size ∧ (s.extract p (p + 1)).toList = [b] ∧ s.data.toList.drop (p + 1) = r := by
  have hl : p < s.data.toList.length := by
    have := congrArg List.length h
    simp at this
    simp
    omega
  refine ⟨by simpa using hl, ?_, ?_⟩
  · rw [ByteArray.toList_eq]
    simp only [ByteArray.data_extract, Array.toList_extract, List.extract_eq_take_drop, h]
    rw [show p + 1 - p = 1 by omega]
    rfl
  · have := congrArg (List.drop 1) h
    rw [List.drop_drop] at this
    simpa using this
set_option maxRecDepth 100000 in
set_option maxHeartbeats 800000 in
theorem take_other (c b : UInt8) (r : List UInt8) (g : Nat) (s : ByteArray) (p : Nat) (w : World) (h : St w g s p false) (hs : s.size ≤ 1048576) (hp : s.data.toList.drop p = b :: r) (hb : b ≠ c) : Calls Try.prog 54 #[.pointer (some ⟨g, 0, none⟩), .string ⟨#[c]⟩] w (TakePost g s p false false w) := by
  obtain ⟨c0, c1, c2, f1, f2⟩ := h.cells
  have HH := Lib.hid h
  obtain ⟨hlt, he, -⟩ := at_place hp
  have hn : ((s.extract p (p + 1)).toList == [c]) = false := by
    rw [he]
    simpa using hb
  clear h hp he
  go_enter Try.func54, Try.ntmps54
  go_wp2_with fail
  have s1 : IntKind.i64.wrap ((p : Int) + 1) = (p : Int) + 1 := IntWalk.i64_in _ (by omega)
  have d1 : decide ((s.size : Int) < (p : Int) + 1) = false := by simp; omega
  have s2 : 0 ≤ (p : Int) + 1 := by omega
  have s3 : (p : Int) + 1 ≤ s.size := by omega
  have s4 : ((p : Int) + 1).toNat = p + 1 := by omega
  have s5 : (p : Int) ≤ (p : Int) + 1 := by omega
  clear hs hb
  go_quiet (fail)
  go_wp2_with fail
  go_ret
  exact ⟨rfl, HH.out, grown_quiet _ _ _, rfl⟩
set_option maxRecDepth 100000 in
set_option maxHeartbeats 800000 in
theorem take_yes (c : UInt8) (r : List UInt8) (g : Nat) (s : ByteArray) (p : Nat) (w : World) (h : St w g s p false) (hs : s.size ≤ 1048576) (hp : s.data.toList.drop p = c :: r) : Calls Try.prog 54 #[.pointer (some ⟨g, 0, none⟩), .string ⟨#[c]⟩] w (TakePost g s p false true w) := by
  obtain ⟨c0, c1, c2, f1, f2⟩ := h.cells
  have HH := Lib.hid h
  obtain ⟨hlt, he, -⟩ := at_place hp
  have hn : ((s.extract p (p + 1)).toList == [c]) = true := by
    rw [he]
    simp
  clear h hp he
  go_enter Try.func54, Try.ntmps54
  go_wp2_with fail
  have s1 : IntKind.i64.wrap ((p : Int) + 1) = (p : Int) + 1 := IntWalk.i64_in _ (by omega)
  have d1 : decide ((s.size : Int) < (p : Int) + 1) = false := by simp; omega
  have s2 : 0 ≤ (p : Int) + 1 := by omega
  have s3 : (p : Int) + 1 ≤ s.size := by omega
  have s4 : ((p : Int) + 1).toNat = p + 1 := by omega
  have s5 : (p : Int) ≤ (p : Int) + 1 := by omega
  go_quiet (fail)
  clear s1 d1 s2 s3 s4 s5 hn
  go_wp2_with fail
  go_ret
  exact ⟨rfl, heap_setCell_same (w.drewN nq) g 1 _ _ (.int .i64 ((p : Int) + 1)) HH.out, ⟨rfl, rfl, rfl, by simp [World.setCell], fun k _ hk => Below.heap_setCell (w.drewN nq) ⟨g, 1, none⟩ _ k (fun e => hk (by rw [e]))⟩, by simp [World.setCell]⟩
/-- Whether the byte is taken. -/
def tk (bad : Bool) (c : UInt8) (rest : List UInt8) : Bool := !bad && (rest.head? == some c)
theorem take_any (c : UInt8) (g : Nat) (s : ByteArray) (p : Nat) (bad : Bool) (rest : List UInt8) (b : Bool) (hb : tk bad c rest = b) (w : World) (h : St w g s p bad) (hs : s.size ≤ 1048576) (hr : s.data.toList.drop p = rest) (hp : p ≤ s.size) :
    Calls Try.prog 54 #[.pointer (some ⟨g, 0, none⟩), .string ⟨#[c]⟩] w (TakePost g s p bad b w) := by
  subst hb
  cases bad with
  | true => exact take_bad c g s p w h
  | false =>
    cases rest with
    | nil => exact take_end c g s p w h hs hr hp
    | cons b r =>
      by_cases e : b = c
      · subst e
        rw [show tk false b (b :: r) = true by simp [tk]]
        exact take_yes b r g s p w h hs hr
      · rw [show tk false c (b :: r) = false by simp [tk, e]]
        exact take_other c b r g s p w h hs hr e
end Go.Proofs.Ytfhghgbiemjddaa
