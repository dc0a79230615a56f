/-
  What strings.Join answers over a row of the call's own.
-/
import Derived.Test.YtiijlpmdnokjfaaJoin
import Derived.Test.YtiijlpmdnokjfaaSLs
import Derived.Test.YtiijlpmdnokjfaaShelf
namespace Go.Proofs.Ytiijlpmdnokjfaa
open Go.RowKit

/-- strings.Join over a row of the call's own. -/
theorem libJoin_any (g c B : Nat) (ps : List (List UInt8)) (sep : ByteArray) (w : World) (hown : w.ownsRow B 9 1 (.slice (some ⟨g, 0, none⟩) ps.length c) ps.length (strs ps)) (hn : ps.length ≤ 1048576) (hq : (Lib.join ps sep.data.toList).length ≤ 1048576) :
    Calls Try.prog 58 #[.slice (some ⟨g, 0, none⟩) ps.length c, .string sep] w (JoinPost (Lib.join ps sep.data.toList) w) := by
  obtain ⟨xs, hxs⟩ : ∃ xs : List ByteArray, xs = ps.map fun p => ⟨p.toArray⟩ := ⟨_, rfl⟩
  have hmap : xs.map (·.data.toList) = ps := by rw [hxs, List.map_map]; simp [Function.comp_def]
  have hlen : xs.length = ps.length := by rw [hxs]; simp
  have hcap : ps.length ≤ c := by
    rcases hown.2 with ⟨h0, _⟩ | ⟨g', cap, cur, h0, _, _, h1, _⟩
    · simp at h0
    · simp only [Value.slice.injEq] at h0
      obtain ⟨_, _, rfl⟩ := h0
      exact h1
  have h := Try.strings_Join g 0 c xs sep w (fun j x hj => by
      have hlt : j < xs.length := (List.getElem?_eq_some_iff.1 hj).1
      rw [Nat.zero_add, hown.cellAt j (by omega)]
      rw [hxs, List.getElem?_map] at hj
      unfold strs
      rw [List.getElem?_map]
      cases hp : ps[j]? with
      | none => rw [hp] at hj; cases hj
      | some p => rw [hp] at hj; simp at hj; subst hj; rfl) (own_lt hown).2 (by omega) (by omega) (by rw [hmap]; omega)
  rw [hmap, hlen] at h
  exact h

theorem own_SL {w : World} {B g c : Nat} {ps : List (List UInt8)} (hown : w.ownsRow B 9 1 (.slice (some ⟨g, 0, none⟩) ps.length c) ps.length (strs ps)) : SL w w.heap.size (some ⟨g, 0, none⟩) ps.length ps :=
  ⟨rfl, fun k p hk => ⟨⟨g, 0, none⟩, rfl, (own_lt hown).2, by
    have hlt : k < ps.length := (List.getElem?_eq_some_iff.1 hk).1
    have e : ((⟨g, 0, none⟩ : Addr).add k) = ⟨g, k, none⟩ := by unfold Addr.add; split <;> simp_all
    rw [e, hown.cellAt k (by omega)]
    simp [strs, hk]⟩⟩
end Go.Proofs.Ytiijlpmdnokjfaa
