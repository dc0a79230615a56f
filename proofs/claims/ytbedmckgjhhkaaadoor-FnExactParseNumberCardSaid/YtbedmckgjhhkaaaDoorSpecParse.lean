/-
  What spec.ParseInt and spec.ParseNumber answer: the number in their range whose numeral the string is, and true; 0 and false if there is none. Behind the call nothing that was there has turned.
-/
import Derived.Test.YtbedmckgjhhkaaaDoorRead
namespace Go.Proofs.YtbedmckgjhhkaaaDoor
open Go.RowKit

theorem extract_tail (s : ByteArray) (h0 : 0 < s.size) (hb : s[0] = 45) : s.data.toList = 45 :: (s.extract 1 s.size).data.toList := by
  have e : (s.extract 1 s.size).data.toList = s.data.toList.drop 1 := by
    simp
    exact List.take_of_length_le (by simp)
  rw [e]
  have hlen : 0 < s.data.toList.length := by simpa using h0
  have h1 : s.data.toList[0] = 45 := by rw [← hb]; simp; rfl
  rw [← h1]
  exact (List.drop_eq_getElem_cons hlen)

theorem read_any (s : ByteArray) (most : Nat) (w : World) (hs : s.size ≤ maxLen) (hm : 1 ≤ most) (hm2 : most ≤ 12) :
    Calls Tryd.prog 24 #[.string s, .int .i64 most] w (ReadPost most s.data.toList w) := by
  by_cases h0 : 0 < s.size
  · by_cases hb : s[0] = 45
    · exact read_neg s (s.extract 1 s.size) most w hs hm hm2 h0 hb rfl (by simp [ByteArray.size_extract]) (extract_tail s h0 hb)
    · refine read_pos s most w hs hm hm2 h0 ?_ ?_
      · simp only [beq_eq_false_iff_ne, ne_eq]
        intro e
        apply hb
        apply UInt8.toNat_inj.1
        have : ((45 : UInt8).toNat : Int) = 45 := by decide
        omega
      · intro e
        apply hb
        have hlen : 0 < s.data.toList.length := by simpa using h0
        have h1 : s.data.toList[0] = s[0] := by simp; rfl
        rw [← h1]
        rw [List.head?_eq_getElem?, List.getElem?_eq_getElem hlen] at e
        exact Option.some.inj e
  · have htl : s.data.toList.length = s.size := by simp
    have e0 : s.data.toList = [] := List.eq_nil_of_length_eq_zero (htl.trans (by omega))
    clear htl
    have es : s = ⟨#[]⟩ := by
      cases s with | mk d => simp at e0; subst e0; rfl
    have fin : Reading most s.data.toList 0 false := by rw [e0]; exact Reading.size_pos hm (by simp) (.inl (by simp))
    have FIN := Lib.hid fin
    clear fin
    subst es
    clear e0 h0 hs
    go_enter Tryd.func24, Tryd.ntmps24
    go_wp2
    go_ret2
    exact ⟨0, false, rfl, FIN.out, Below.refl _ _⟩

/-- The number from lo to hi whose numeral the bytes are, and true; 0 and false if there is none. -/
def InRange (lo hi : Int) (l : List UInt8) (v : Int) (ok : Bool) : Prop :=
  (ok = true ∧ l = Lib.itoa v ∧ lo ≤ v ∧ v ≤ hi) ∨ (ok = false ∧ v = 0 ∧ ∀ n : Int, lo ≤ n → n ≤ hi → l ≠ Lib.itoa n)
theorem InRange.unique {lo hi : Int} {l : List UInt8} {v v' : Int} {ok ok' : Bool} (h : InRange lo hi l v ok) (h' : InRange lo hi l v' ok') : v = v' ∧ ok = ok' := by
  rcases h with ⟨rfl, rfl, a, b⟩ | ⟨rfl, rfl, hn⟩ <;> rcases h' with ⟨rfl, e, a', b'⟩ | ⟨rfl, rfl, hn'⟩
  · exact ⟨itoa_inj e, rfl⟩
  · exact absurd rfl (hn' _ a b)
  · exact absurd e (hn _ a' b')
  · exact ⟨rfl, rfl⟩
def ParsePost (lo hi : Int) (l : List UInt8) (w : World) (e : Ending) (w' : World) : Prop := ∃ (v : Int) (ok : Bool), e = .returned (.tuple #[.int .i64 v, .bool ok]) ∧ InRange lo hi l v ok ∧ Below w.heap.size w w'

theorem Reading.int {l : List UInt8} {v : Int} {ok : Bool} (h : Reading 12 l v ok) : InRange (-999999999999) 999999999999 l v ok := by
  rcases h with ⟨rfl, e, hv⟩ | ⟨rfl, rfl, hn⟩
  · exact .inl ⟨rfl, e, by omega, by omega⟩
  · exact .inr ⟨rfl, rfl, fun n a b => hn n (by omega)⟩
theorem Reading.number {l : List UInt8} {v : Int} (h : Reading 6 l v true) (h0 : ¬ v < 0) : InRange 0 999999 l v true := by
  rcases h with ⟨_, e, hv⟩ | ⟨h, _, _⟩
  · exact .inl ⟨rfl, e, by omega, by omega⟩
  · cases h
theorem Reading.number_neg {l : List UInt8} {v : Int} (h : Reading 6 l v true) (h0 : v < 0) : InRange 0 999999 l 0 false := by
  rcases h with ⟨_, e, hv⟩ | ⟨h, _, _⟩
  · exact .inr ⟨rfl, rfl, fun n a b e' => by have := itoa_inj (e.symm.trans e'); omega⟩
  · cases h
theorem Reading.number_no {l : List UInt8} {v : Int} (h : Reading 6 l v false) : v = 0 ∧ InRange 0 999999 l 0 false := by
  rcases h with ⟨h, _, _⟩ | ⟨_, rfl, hn⟩
  · cases h
  · exact ⟨rfl, .inr ⟨rfl, rfl, fun n a b => hn n (by omega)⟩⟩

set_option maxHeartbeats 400000 in
theorem specParseInt_any (s : ByteArray) (w : World) (hs : s.size ≤ maxLen) :
    Calls Tryd.prog 15 #[.string s] w (ParsePost (-999999999999) 999999999999 s.data.toList w) := by
  have HC := Lib.hid (fun w => read_any s 12 w hs (by omega) (by omega))
  clear hs
  go_enter Tryd.func15, Tryd.ntmps15
  go_wp2_with (go_at_call 24; refine (HC.out _).mono ?_; rintro e w1 ⟨v, ok, rfl, hr, hb⟩; have HR := Lib.hid hr; clear hr)
  go_ret2
  exact ⟨v, ok, rfl, HR.out.int, hb⟩

set_option maxHeartbeats 400000 in
theorem specParseNumber_any (s : ByteArray) (w : World) (hs : s.size ≤ maxLen) :
    Calls Tryd.prog 14 #[.string s] w (ParsePost 0 999999 s.data.toList w) := by
  have HC := Lib.hid (fun w => read_any s 6 w hs (by omega) (by omega))
  clear hs
  go_enter Tryd.func14, Tryd.ntmps14
  go_wp2_with (go_at_call 24; refine (HC.out _).mono ?_; rintro e w1 ⟨v, ok, rfl, hr, hb⟩; have HR := Lib.hid hr; clear hr; cases ok; rotate_left; by_cases hv : v < 0)
  · go_ret2
    exact ⟨0, false, rfl, HR.out.number_neg hv, hb⟩
  · go_ret2
    exact ⟨v, true, rfl, HR.out.number (by omega), hb⟩
  · go_ret2
    exact ⟨0, false, rfl, HR.out.number_no.2, hb⟩
#print axioms specParseNumber_any
end Go.Proofs.YtbedmckgjhhkaaaDoor
