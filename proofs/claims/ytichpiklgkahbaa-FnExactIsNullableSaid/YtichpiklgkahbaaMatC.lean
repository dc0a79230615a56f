/-
  Closures put together: what remembers; concatenation, repetition.
-/
import Derived.Test.YtichpiklgkahbaaRemI
import Derived.Test.YtichpiklgkahbaaMatL
namespace Go.Proofs.Ytichpiklgkahbaa
open Go.RowKit

theorem Ans.more {k : Nat} {cap : Array Value} {b : Bool} {J : World → Prop} {S S' : Nat → Prop} {i j : Nat} (h : Ans k cap b J S i j) (hS : ∀ g, S g → S' g) : Ans k cap b J S' i j :=
  fun w hw => (h w hw).mono fun _ _ ⟨he, hJ, hc⟩ => ⟨he, hJ, hc.more hS⟩
/-- What lies apart stays. -/
theorem Ans.with {k : Nat} {cap : Array Value} {b : Bool} {J R : World → Prop} {S S' : Nat → Prop} {i j : Nat} (h : Ans k cap b J S i j) (hR : ∀ w w', R w → Chg S w w' → R w') (hS : ∀ g, S g → S' g) : Ans k cap b (fun w => J w ∧ R w) S' i j :=
  fun w hw => (h w hw.1).mono fun _ _ ⟨he, hJ, hc⟩ => ⟨he, ⟨hJ, hR _ _ hw.2 hc⟩, hc.more hS⟩
theorem Rem.chg {N : Nat} {M : Mt} {fm : Value} {B : RemB} {S : Nat → Prop} {w w' : World} (h : Rem N M fm B w) (hc : Chg S w w') (hd : ∀ g, B.All g → ¬ S g) : Rem N M fm B w' :=
  h.same fun g hg => hc.block g (h.lt hg) (hd g hg)

theorem enters_rem : ∀ args w, (callFunc 85 args).run Try.prog w = .ok (.enter 85 args) w := enters_of Try.func85 (by kernel_rfl) rfl

/-- A closure that remembers, whole. -/
theorem rem_mat {N : Nat} {M : Mt} {fm : Value} {B : RemB} {J : World → Prop} {SJ : Nat → Prop} (hJ : Keeps J SJ) (hJh : Has J SJ)
    (h : ∀ i j, i ≤ j → j ≤ N → Ans 85 (remCap B) (M i j) (fun w => J w ∧ Rem N M fm B w) (fun g => SJ g ∨ B.All g) i j) :
    Mat N M 85 (remCap B) (fun w => J w ∧ Rem N M fm B w) (fun g => SJ g ∨ B.All g) :=
  ⟨enters_rem, fun w w' hw hs => ⟨hJ w w' hw.1 fun g hg => hs g (.inl hg), hw.2.same fun g hg => hs g (.inr hg)⟩, fun w hw g hg => hg.elim (hJh w hw.1 g) fun h => hw.2.lt h, h⟩

section
variable {N : Nat} {p q : Mt} {k1 k2 : Nat} {cap1 cap2 : Array Value} {J1 J2 : World → Prop} {S1 S2 : Nat → Prop} {bl br : Nat}

theorem two_keeps (m1 : Mat N p k1 cap1 J1 S1) (m2 : Mat N q k2 cap2 J2 S2) : Keeps (Two k1 cap1 k2 cap2 bl br J1 J2) (fun g => g = bl ∨ g = br ∨ S1 g ∨ S2 g) :=
  fun w w' hw hs => ⟨(hs _ (.inl rfl)).trans hw.1, (hs _ (.inr (.inl rfl))).trans hw.2.1, m1.keeps w w' hw.2.2.1 fun g hg => hs g (.inr (.inr (.inl hg))), m2.keeps w w' hw.2.2.2 fun g hg => hs g (.inr (.inr (.inr hg)))⟩
theorem two_has (m1 : Mat N p k1 cap1 J1 S1) (m2 : Mat N q k2 cap2 J2 S2) : Has (Two k1 cap1 k2 cap2 bl br J1 J2) (fun g => g = bl ∨ g = br ∨ S1 g ∨ S2 g) := fun w hw g hg => by
  rcases hg with rfl | rfl | h | h
  · exact lt_of_block hw.1
  · exact lt_of_block hw.2.1
  · exact m1.has w hw.2.2.1 g h
  · exact m2.has w hw.2.2.2 g h
theorem two_mat {M : Mt} {k : Nat} {cap : Array Value} (m1 : Mat N p k1 cap1 J1 S1) (m2 : Mat N q k2 cap2 J2 S2) (hen : ∀ args w, (callFunc k args).run Try.prog w = .ok (.enter k args) w)
    (h : ∀ i j, i ≤ j → j ≤ N → Ans k cap (M i j) (Two k1 cap1 k2 cap2 bl br J1 J2) (fun g => S1 g ∨ S2 g) i j) :
    Mat N M k cap (Two k1 cap1 k2 cap2 bl br J1 J2) (fun g => g = bl ∨ g = br ∨ S1 g ∨ S2 g) :=
  ⟨hen, two_keeps m1 m2, two_has m1 m2, fun i j hij hj => (h i j hij hj).more fun _ h => .inr (.inr h)⟩
theorem one_mat {M : Mt} {k : Nat} {cap : Array Value} (m1 : Mat N p k1 cap1 J1 S1) (hen : ∀ args w, (callFunc k args).run Try.prog w = .ok (.enter k args) w)
    (h : ∀ i j, i ≤ j → j ≤ N → Ans k cap (M i j) (One k1 cap1 bl J1) S1 i j) : Mat N M k cap (One k1 cap1 bl J1) (fun g => g = bl ∨ S1 g) :=
  ⟨hen, fun w w' hw hs => ⟨(hs _ (.inl rfl)).trans hw.1, m1.keeps w w' hw.2 fun g hg => hs g (.inr hg)⟩, fun w hw g hg => hg.elim (fun e => e ▸ lt_of_block hw.1) (m1.has w hw.2 g), fun i j hij hj => (h i j hij hj).more fun _ h => .inr h⟩

theorem enters_cat : ∀ args w, (callFunc 79 args).run Try.prog w = .ok (.enter 79 args) w := enters_of Try.func79 (by kernel_rfl) rfl
theorem enters_star : ∀ args w, (callFunc 80 args).run Try.prog w = .ok (.enter 80 args) w := enters_of Try.func80 (by kernel_rfl) rfl

def ptr2 (bl br : Nat) : Array Value := #[.pointer (some ⟨bl, 0, none⟩), .pointer (some ⟨br, 0, none⟩)]
theorem cat_mat {B : RemB} (m1 : Mat N p k1 cap1 J1 S1) (m2 : Mat N q k2 cap2 J2 S2) (hd : ∀ g, S1 g → ¬ S2 g) (h11 : ¬ S1 bl) (h12 : ¬ S1 br) (h21 : ¬ S2 bl) (h22 : ¬ S2 br) (hN : N ≤ 30)
    (ha : B.Apart) (hB : ∀ g, B.All g → ¬ (g = bl ∨ g = br ∨ S1 g ∨ S2 g)) :
    Mat N (catM p q) 85 (remCap B) (fun w => Two k1 cap1 k2 cap2 bl br J1 J2 w ∧ Rem N (catM p q) (.func (.func 79) #[] (ptr2 bl br)) B w) (fun g => (g = bl ∨ g = br ∨ S1 g ∨ S2 g) ∨ B.All g) := by
  refine rem_mat (two_keeps m1 m2) (two_has m1 m2) fun i j hij hj => ?_
  refine rem_body N (catM p q) 79 (ptr2 bl br) B _ _ _ hN ha (.inr (.inr (.inr (.inr (.inr (.inl rfl)))))) (.inr (.inr (.inr (.inr (.inr (.inr rfl)))))) (two_keeps m1 m2) (two_has m1 m2)
    (hB _ (.inr (.inr (.inr (.inr (.inl rfl)))))) (hB _ (.inr (.inr (.inr (.inr (.inr rfl)))))) enters_cat i j hij hj ?_
  exact (cat_body m1 m2 hd h11 h12 h21 h22 hN i j hij hj).with (fun w w' hR hc => hR.chg hc fun g hg h => hB g hg (.inr (.inr h))) fun _ h => .inl (.inr (.inr h))

theorem star_mat {B : RemB} (m1 : Mat N p k1 cap1 J1 S1) (h11 : ¬ S1 bl) (h12 : ¬ S1 br) (hN : N ≤ 30) (ha : B.Apart) (hB : ∀ g, B.All g → ¬ (g = bl ∨ g = br ∨ S1 g)) :
    Mat N (starM p) 85 (remCap B) (fun w => StJ k1 cap1 85 (remCap B) bl br J1 w ∧ Rem N (starM p) (.func (.func 80) #[] (ptr2 bl br)) B w) (fun g => (g = bl ∨ g = br ∨ S1 g) ∨ B.All g) := by
  have hk : Keeps (StJ k1 cap1 85 (remCap B) bl br J1) (fun g => g = bl ∨ g = br ∨ S1 g) := fun w w' hw hs => ⟨(hs _ (.inl rfl)).trans hw.1, (hs _ (.inr (.inl rfl))).trans hw.2.1, m1.keeps w w' hw.2.2 fun g hg => hs g (.inr (.inr hg))⟩
  have hh : Has (StJ k1 cap1 85 (remCap B) bl br J1) (fun g => g = bl ∨ g = br ∨ S1 g) := fun w hw g hg => by
    rcases hg with rfl | rfl | h
    · exact lt_of_block hw.1
    · exact lt_of_block hw.2.1
    · exact m1.has w hw.2.2 g h
  refine rem_mat hk hh ?_
  suffices H : ∀ d i j, j - i ≤ d → i ≤ j → j ≤ N → Ans 85 (remCap B) (starM p i j) (fun w => StJ k1 cap1 85 (remCap B) bl br J1 w ∧ Rem N (starM p) (.func (.func 80) #[] (ptr2 bl br)) B w) (fun g => (g = bl ∨ g = br ∨ S1 g) ∨ B.All g) i j from
    fun i j hij hj => H _ i j (Nat.le_refl _) hij hj
  intro d
  induction d with
  | zero =>
    intro i j hd hij hj
    refine rem_body N (starM p) 80 (ptr2 bl br) B _ _ _ hN ha (.inr (.inr (.inr (.inr (.inr (.inl rfl)))))) (.inr (.inr (.inr (.inr (.inr (.inr rfl)))))) hk hh
      (hB _ (.inr (.inr (.inr (.inr (.inl rfl)))))) (hB _ (.inr (.inr (.inr (.inr (.inr rfl)))))) enters_star i j hij hj ?_
    exact star_body m1 (fun _ h => .inl (.inr (.inr h))) h11 h12 (fun w w' hR hc => hR.chg hc fun g hg h => hB g hg (.inr (.inr h))) enters_rem hN i j hij hj fun m h1 h2 => by omega
  | succ d ih =>
    intro i j hd hij hj
    refine rem_body N (starM p) 80 (ptr2 bl br) B _ _ _ hN ha (.inr (.inr (.inr (.inr (.inr (.inl rfl)))))) (.inr (.inr (.inr (.inr (.inr (.inr rfl)))))) hk hh
      (hB _ (.inr (.inr (.inr (.inr (.inl rfl)))))) (hB _ (.inr (.inr (.inr (.inr (.inr rfl)))))) enters_star i j hij hj ?_
    exact star_body m1 (fun _ h => .inl (.inr (.inr h))) h11 h12 (fun w w' hR hc => hR.chg hc fun g hg h => hB g hg (.inr (.inr h))) enters_rem hN i j hij hj fun m h1 h2 => ih m j (by omega) h2 hj
end
end Go.Proofs.Ytichpiklgkahbaa
