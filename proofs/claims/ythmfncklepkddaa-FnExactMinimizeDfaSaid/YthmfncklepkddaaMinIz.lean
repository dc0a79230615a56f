/-
  The closure of impl.MinimizeDfa.
-/
import Derived.Test.YthmfncklepkddaaMinI
namespace Go.Proofs.Ythmfncklepkddaa
open Go.RowKit

theorem implAccQ_any (bd : Nat) (ad : Addr) (n c q : Nat) (b : Bool) (w : World) (hq : q < n) (c0 : w.cell? ⟨bd, 0, none⟩ = some (.slice (some ad) n c)) (c1 : w.cell? (ad.add q) = some (.bool b)) :
    Calls Try.prog 50 #[.int .i64 (q : Int), .pointer (some ⟨bd, 0, none⟩)] w fun e w' => e = .returned (.bool b) ∧ w = w' := by
  have s0 : (q : Int) < (n : Int) := by omega
  have s1 : (0 : Int) ≤ (q : Int) := by omega
  go_enter Try.func50, Try.ntmps50
  go_wp2_with fail
  go_ret
  exact ⟨rfl, rfl⟩
theorem enters_acc (args : Array Value) (w : World) : (callFunc 50 args).run Try.prog w = .ok (.enter 50 args) w := enters_of Try.func50 (by kernel_rfl) rfl args w
end Go.Proofs.Ythmfncklepkddaa
