/-
  What the model's picks answer: an element of the list; the cursor's block alone has turned.
-/
import Derived.Test.YtiijlpmdnokjfaaPickM
namespace Go.Proofs.Ytiijlpmdnokjfaa
open Go.RowKit

def l1PickPost (ps : List (List UInt8)) (g B : Nat) (A : Option Addr) (n c : Nat) (w : World) (e : Ending) (w' : World) : Prop :=
  ∃ p ∈ ps, e = .returned (.string ⟨p.toArray⟩) ∧ Cur w' g B A n c ∧ w.grownBy w' (some g)

set_option maxRecDepth 100000 in
set_option maxHeartbeats 800000 in
theorem l1Pick_any (g B gl : Nat) (A : Option Addr) (n c m : Nat) (ps : List (List UInt8)) (w : World) (hc : Cur w g B A n c) (hn : n ≤ 1048576) (h1 : 1 ≤ m) (h2 : m ≤ 256) (hm : ps.length = m) (hne : gl ≠ g)
    (hl : w.heap[gl]? = some (.cells (ps.map fun p => .string ⟨p.toArray⟩).toArray 9 (0, 0))) :
    Calls Try.prog 71 #[.pointer (some ⟨g, 0, none⟩), .slice (some ⟨gl, 0, none⟩) m m] w (l1PickPost ps g B A n c w) := by
  have HC := Lib.hid (l1Below_small g B A n c m w hc hn h1 h2)
  have HL := Lib.hid hl
  have HM := Lib.hid hm
  clear hc hl hm
  go_enter Try.func71, Try.ntmps71
  go_wp2_with (go_at_call 83; refine HC.out.mono ?_; rintro e w1 ⟨x, rfl, hx, hcur, hgr⟩; obtain ⟨p, hp⟩ : ∃ p, ps[x]? = some p := ⟨_, List.getElem?_eq_getElem (by rw [HM.out]; exact hx)⟩; have hcell : w1.cell? ⟨gl, x, none⟩ = some (.string ⟨p.toArray⟩) := pick_cell hgr hne HL.out (by rw [List.getElem?_map, hp]; rfl); have HP := Lib.hid hp; clear hp)
  go_ret
  exact ⟨p, List.mem_of_getElem? HP.out, rfl, hcur, hgr⟩

end Go.Proofs.Ytiijlpmdnokjfaa
