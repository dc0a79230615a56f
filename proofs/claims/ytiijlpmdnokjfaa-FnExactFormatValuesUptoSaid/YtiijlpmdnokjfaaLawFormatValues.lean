/-
  laws.FnExactFormatValues answers true at every input; of what was there nothing has turned.
-/
import Derived.Test.YtiijlpmdnokjfaaValL
import Derived.Test.YtiijlpmdnokjfaaFmtA
namespace Go.Proofs.Ytiijlpmdnokjfaa
open Go.RowKit

set_option maxRecDepth 100000 in
set_option maxHeartbeats 1600000 in
theorem lawFormatValues_any (x y z : ByteArray) (s1 : ByteArray) (w : World) (_ : x.size ≤ maxLen) (_ : y.size ≤ maxLen) (_ : z.size ≤ maxLen) (_ : s1.size ≤ maxLen) (hbulk : x.size + y.size + z.size + s1.size + 5 ≤ 1048576) :
    Calls Try.prog 12 #[.agg #[.string x, .string y, .string z], .string s1] w fun e w' => e = .returned (.bool true) ∧ Below w.heap.size w w' := by
  obtain ⟨W, hW⟩ : ∃ W, W = w.alloc (.cells #[.string x, .string y, .string z] 43) := ⟨_, rfl⟩
  have HB : Hid (Below w.heap.size w W) := Lib.hid (by rw [hW]; exact (Below.refl _ _).alloc (Nat.le_refl _) _)
  have hn : W.heap[w.heap.size]? = some (.cells #[.string x, .string y, .string z] 43) := by rw [hW]; exact heap_alloc_new w _
  have hsz : W.heap.size = w.heap.size + 1 := by rw [hW]; simp
  have HC := Lib.hid (fun (V : World) (hV : Below (w.heap.size + 1) W V) =>
    (And.intro (cell_of_row V w.heap.size 0 _ _ (0, 0) ((hV.block _ (by omega)).trans hn)) (And.intro (cell_of_row V w.heap.size 1 _ _ (0, 0) ((hV.block _ (by omega)).trans hn)) (cell_of_row V w.heap.size 2 _ _ (0, 0) ((hV.block _ (by omega)).trans hn)))))
  have HZ := Lib.hid hsz
  have HA := Lib.hid (Below.refl (w.heap.size + 1) W)
  have HB1 := Lib.hid ((Below.refl w.heap.size w).alloc (Nat.le_refl _) (.cells #[.string x, .string y, .string z] 43))
  obtain ⟨c0, c1, c2⟩ := HC.out _ HA.out
  clear hn hsz
  by_cases hq1 : 1048576 < s1.size
  · exact absurd hbulk (by omega)
  by_cases ht : x.size + y.size + z.size ≤ 1048576
  · have HSZ := Lib.hid (fun V => szVal_yes x y z V ht)
    have HTO := Lib.hid (fun V => toVal_any x y z V)
    have HS := Lib.hid (fun V => fmtS_at x y z s1 V hbulk)
    have HI := Lib.hid (fun V => fmtI_at x y z s1 V hbulk)
    go_enter Try.func12, Try.ntmps12
    go_wp2_with fail
    rw [← hW]
    clear hW
    go_wp2_with (first | (go_at_call 34; refine (HSZ.out _).mono ?_; rintro e w1 ⟨⟨n, rfl, hn⟩, hb⟩; replace HA := Lib.hid (HA.out.trans (hb.mono (by have h1 := HA.out.size; have h2 := HZ.out; omega))); clear hb; obtain ⟨c0, c1, c2⟩ := HC.out _ HA.out) | (go_at_call 35; refine (HTO.out _).mono ?_; rintro e w1 ⟨rfl, hb⟩; replace HA := Lib.hid (HA.out.trans (hb.mono (by have h1 := HA.out.size; have h2 := HZ.out; omega))); clear hb; obtain ⟨c0, c1, c2⟩ := HC.out _ HA.out) | (go_at_call 31; refine (HS.out _).mono ?_; rintro e w1 ⟨rfl, hb⟩; replace HA := Lib.hid (HA.out.trans (hb.mono (by have h1 := HA.out.size; have h2 := HZ.out; omega))); clear hb; obtain ⟨c0, c1, c2⟩ := HC.out _ HA.out) | (go_at_call 30; refine (HI.out _).mono ?_; rintro e w1 ⟨rfl, hb⟩; replace HA := Lib.hid (HA.out.trans (hb.mono (by have h1 := HA.out.size; have h2 := HZ.out; omega))); clear hb; obtain ⟨c0, c1, c2⟩ := HC.out _ HA.out))
    go_ret
    exact ⟨rfl, HB.out.trans (HA.out.mono (by omega))⟩
  · exact absurd hbulk (by omega)
end Go.Proofs.Ytiijlpmdnokjfaa
