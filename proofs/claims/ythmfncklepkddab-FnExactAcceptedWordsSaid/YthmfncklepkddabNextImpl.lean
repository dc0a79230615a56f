/-
  What impl.NextWord answers at every string: the next word, or the empty string; of what was there nothing has turned.
-/
import Derived.Test.YthmfncklepkddabNextSpec
import Derived.Test.YthmfncklepkddabIsWordI
import Derived.Test.YthmfncklepkddabByteRow
namespace Go.Proofs.Ythmfncklepkddab
open Go.RowKit

theorem implIsWord_yes (s : ByteArray) (w : World) (hs : s.size ≤ maxLen) (h : isW s.data.toList = true) : Calls Try.prog 46 #[.string s] w fun e w' => e = .returned (.bool true) ∧ w = w' :=
  (implIsWord_any s w hs).mono fun _ _ ⟨he, hw⟩ => ⟨by rw [he, h], hw⟩
theorem implIsWord_no (s : ByteArray) (w : World) (hs : s.size ≤ maxLen) (h : isW s.data.toList = false) : Calls Try.prog 46 #[.string s] w fun e w' => e = .returned (.bool false) ∧ w = w' :=
  (implIsWord_any s w hs).mono fun _ _ ⟨he, hw⟩ => ⟨by rw [he, h], hw⟩
theorem implLet_at (b : UInt8) (d : Int) (w : World) (h : letIdx b = d) : Calls Try.prog 47 #[.int .u8 b.toNat] w fun e w' => e = .returned (.int .i64 d) ∧ w = w' :=
  (implLet_any b w).mono fun _ _ ⟨he, hw⟩ => ⟨by rw [he, h], hw⟩

/-- What the row holds when m letters are left: they, then letters a. -/
def carried (l : List UInt8) (m : Nat) : List UInt8 := l.take m ++ List.replicate (l.length - m) 97
theorem carried_start (l : List UInt8) : carried l l.length = l := by simp [carried]
theorem carried_length (l : List UInt8) (m : Nat) (h : m ≤ l.length) : (carried l m).length = l.length := by simp [carried]; omega
theorem carried_at (l : List UInt8) (k : Nat) (h : k < l.length) : ∀ h', (carried l (k + 1))[k]'h' = l[k] := by
  intro h'
  simp only [carried]
  rw [List.getElem_append_left (by simp; omega)]
  simp
theorem carried_set (l : List UInt8) (k : Nat) (h : k < l.length) (b : UInt8) : (carried l (k + 1)).set k b = l.take k ++ b :: List.replicate (l.length - (k + 1)) 97 := by
  have e : l.take (k + 1) = l.take k ++ [l[k]] := List.take_succ_eq_append_getElem h
  have hl : (l.take k).length = k := by simp; omega
  unfold carried
  rw [e, List.append_assoc, List.set_append_right _ _ (by omega), hl, Nat.sub_self]
  rfl
theorem carried_step (l : List UInt8) (k : Nat) (h : k < l.length) : (carried l (k + 1)).set k 97 = carried l k := by
  rw [carried_set l k h]
  unfold carried
  rw [show l.length - k = (l.length - (k + 1)) + 1 by omega, List.replicate_succ]
theorem carried_zero (l : List UInt8) : carried l 0 = List.replicate l.length 97 := by simp [carried]

def NextPost (l : List UInt8) (w : World) (e : Ending) (w' : World) : Prop := e = .returned (.string ⟨l.toArray⟩) ∧ Below w.heap.size w w'
theorem next_ret {l : List UInt8} {a : ByteArray} {w w' : World} (h : a.data.toList = l) (hb : Below w.heap.size w w') : NextPost l w (.returned (.string a)) w' :=
  ⟨str_ret (by rw [h]), hb⟩

/-- One letter is written into the row. -/
theorem put_letter {w wr : World} {g m k n : Nat} {l : List UInt8} (hn : l.length = n) (hg : w.heap.size ≤ g) (hrow : BRow wr g m (carried l (k + 1))) (hb : Below w.heap.size w wr) (hk : k < n) (b : UInt8) :
    BRow (wr.setCell ⟨g, k, none⟩ (.int .u8 (b.toNat : Int))) g m (l.take k ++ b :: List.replicate (l.length - (k + 1)) 97) ∧ Below w.heap.size w (wr.setCell ⟨g, k, none⟩ (.int .u8 (b.toNat : Int))) := by
  subst hn
  have h1 := hrow.set k (by rw [carried_length l _ (by omega)]; exact hk) b
  rw [carried_set l k hk] at h1
  exact ⟨h1, hb.setCell (p := ⟨g, k, none⟩) hg _⟩

/-- The letter at a place of the constant, as a cell. -/
def letC (d : Nat) (h : d < 3) : Int := (((ByteArray.mk #[97, 98, 99])[d]'h).toNat : Int)
theorem put_back {w wr : World} {g m k n : Nat} {l : List UInt8} (hn : l.length = n) (hg : w.heap.size ≤ g) (hrow : BRow wr g m (carried l (k + 1))) (hb : Below w.heap.size w wr) (hk : k < n) (b : UInt8) :
    (convert 56 9 (.slice (some ⟨g, 0, none⟩) n m)).run Try.prog (wr.setCell ⟨g, k, none⟩ (.int .u8 (b.toNat : Int))) = .ok (.string ⟨(l.take k ++ b :: List.replicate (l.length - (k + 1)) 97).toArray⟩) (wr.setCell ⟨g, k, none⟩ (.int .u8 (b.toNat : Int))) := by
  have h := conv_back _ g m m _ (put_letter hn hg hrow hb hk b).1
  subst hn
  have e : (l.take k ++ b :: List.replicate (l.length - (k + 1)) 97).length = l.length := by simp; omega
  rw [e] at h
  exact h
theorem push_room {w wr : World} {g m n : Nat} (hg : w.heap.size ≤ g) (hrow : BRow wr g m (List.replicate n 97)) (hb : Below w.heap.size w wr) (hm : n + 1 ≤ m) (o : Obj) :
    (convert 56 9 (.slice (some ⟨g, 0, none⟩) (n + 1) m)).run Try.prog ((wr.alloc o).setCells g n [.int .u8 97]) = .ok (.string (allA (n + 1))) ((wr.alloc o).setCells g n [.int .u8 97]) ∧
      Below w.heap.size w ((wr.alloc o).setCells g n [.int .u8 97]) := by
  have h1 := (hrow.below ((Below.refl _ wr).alloc (Nat.le_refl _) o)).push 97 (by simpa using hm)
  rw [List.length_replicate, ← List.replicate_succ'] at h1
  have h := conv_back _ g m m _ h1
  rw [List.length_replicate] at h
  exact ⟨h, (hb.alloc hb.size o).setCell (p := ⟨g, n, none⟩) hg _⟩
theorem push_grown {w wr w1 : World} {g' c n : Nat} (o : Obj) (hb : Below w.heap.size w wr)
    (hown : w1.ownsRow (wr.heap.size + 1) 5 1 (.slice (some ⟨g', 0, none⟩) (n + 1) c) (n + 1) (List.replicate n (Value.int .u8 97) ++ [.int .u8 97])) (hgr : (wr.alloc o).grownBy w1 none) :
    (convert 56 9 (.slice (some ⟨g', 0, none⟩) (n + 1) c)).run Try.prog w1 = .ok (.string (allA (n + 1))) w1 ∧ Below w.heap.size w w1 := by
  have e : List.replicate n (Value.int .u8 97) ++ [.int .u8 97] = (List.replicate (n + 1) 97).map fun b : UInt8 => Value.int .u8 (b.toNat : Int) := by
    rw [List.replicate_succ', List.map_append, List.map_replicate]
    rfl
  rw [e] at hown
  exact ⟨own_byte (by simp) hown, (hb.alloc hb.size o).grown hgr (by simp; exact Nat.le_succ_of_le hb.size) (fun k e => by cases e)⟩
theorem push_olds {wr : World} {g m n : Nat} (hrow : BRow wr g m (List.replicate n 97)) (o : Obj) : ∀ j u, ((List.replicate n 97).map fun b : UInt8 => Value.int .u8 (b.toNat : Int))[j]? = some u → (wr.alloc o).cell? ⟨g, 0 + j, none⟩ = some u := by
  intro j u hj
  have h1 := hrow.below ((Below.refl _ wr).alloc (Nat.le_refl _) o)
  have hj' : j < n := by have := (List.getElem?_eq_some_iff.1 hj).1; simpa using this
  rw [Nat.zero_add, h1.2.2.1 j (by simpa using hj'), ← hj]
  simp [hj']
theorem push_spare {wr : World} {g m n : Nat} (hrow : BRow wr g m (List.replicate n 97)) (o : Obj) (hm : n + 1 ≤ m) : ∀ j, j < 1 → ((wr.alloc o).cell? ⟨g, 0 + n * 1 + j, none⟩).isSome = true ∧ (wr.alloc o).frozen? ⟨g, 0 + n * 1 + j, none⟩ = false := by
  intro j hj
  have h1 := (hrow.below ((Below.refl _ wr).alloc (Nat.le_refl _) o)).2.2.2 n (by omega)
  have hj0 : j = 0 := by omega
  subst hj0
  rw [Nat.zero_add, Nat.mul_one, Nat.add_zero]
  exact h1
theorem push_new (wr : World) (t : TypeId) : ∀ j u, [Value.int .u8 (97 : UInt8).toNat][j]? = some u → (wr.alloc (.cells #[.int .u8 (97 : UInt8).toNat] t)).cell? ((⟨wr.heap.size, 0, none⟩ : Addr).add j) = some u := by
  intro j u hj
  match j, hj with
  | 0, hj => simp at hj; subst hj; simp [Addr.add]

set_option maxHeartbeats 1600000 in
theorem implNext_any (s : ByteArray) (w : World) (hs : s.size ≤ maxLen) :
    Calls Try.prog 49 #[.string s] w (NextPost (nextW s.data.toList) w) := by
  cases hw : isW s.data.toList with
  | false =>
    have HN := Lib.hid (nextW_no hw)
    have HC := Lib.hid (fun w => implIsWord_no s w hs hw)
    clear hs hw
    go_enter Try.func49, Try.ntmps49
    go_wp2_with (go_at_call 46; refine (HC.out _).mono ?_; rintro e w' ⟨rfl, rfl⟩)
    go_ret
    exact next_ret (by rw [HN.out]) (Below.refl _ _)
  | true =>
    have HC := Lib.hid (fun w => implIsWord_yes s w hs hw)
    have hlen := isW_len hw
    have hsz : s.data.toList.length = s.size := by simp
    rw [hsz] at hlen
    have HSZ := Lib.hid hsz
    have HW := Lib.hid hw
    obtain ⟨m, w1, hcv, hrow, hb, hmm⟩ := conv_row s w hs
    obtain ⟨g, hg⟩ : ∃ g, g = w.heap.size := ⟨_, rfl⟩
    rw [← hg] at hcv hrow
    have hgl : w.heap.size ≤ g := by omega
    have HROW := Lib.hid hrow
    have HB := Lib.hid hb
    obtain ⟨i0, hi, hz0, hz1, hz2⟩ := info_parts byteInfo
    clear hsz hw hs hrow hb hg
    go_enter Try.func49, Try.ntmps49
    go_wp2_with (go_at_call 46; refine (HC.out _).mono ?_; rintro e w' ⟨rfl, rfl⟩)
    clear hcv
    go_loopw [4] (fun i wr => ∃ k : Nat, i = .int .i64 ((k : Int) - 1) ∧ k ≤ s.size ∧ Carry s.data.toList k ∧ BRow wr g m (carried s.data.toList k) ∧ Below w.heap.size w wr) (fun i _ => (intOf i + 1).toNat)
    case atStart => exact ⟨s.size, rfl, Nat.le_refl _, by rw [← HSZ.out]; exact Carry.start _, by rw [← HSZ.out, carried_start]; exact HROW.out, HB.out⟩
    case round =>
      obtain ⟨m', hi', hm, hcar, hrow, hb⟩ := hrel
      have HR := Lib.hid hcar
      have HK := Lib.hid hrow
      have HBB := Lib.hid hb
      clear hcar hrow hb
      cases m' with
      | zero =>
        have hi2 : _ = Value.int .i64 (-1) := hi'
        clear hi'
        subst hi2
        have HX := Lib.hid (HR.out.wrap HW.out)
        have hrow0 := HK.out
        rw [carried_zero, HSZ.out] at hrow0
        have HK0 := Lib.hid hrow0
        clear hrow0
        by_cases h30 : s.size = 30
        · have e1 : ((s.size : Int) == 30) = true := by simp [h30]
          have HN := Lib.hid (HX.out.trans (if_neg (by rw [HSZ.out]; omega)))
          clear h30
          go_wp2
          go_ret
          exact next_ret (by rw [HN.out]) HBB.out
        · have e1 : ((s.size : Int) == 30) = false := by simp; omega
          have HN := Lib.hid (HX.out.trans (if_pos (by rw [HSZ.out]; omega)))
          clear h30
          have HA := Lib.hid (fun hm => push_room (w := w) hgl HK0.out HBB.out hm)
          have HG := Lib.hid (fun o (w1 : World) g' c hown hgr => push_grown (w := w) (wr := wr) (w1 := w1) (g' := g') (c := c) (n := s.size) o HBB.out hown hgr)
          have HO := Lib.hid (fun o => push_olds HK0.out o)
          have HS := Lib.hid (fun o hm => push_spare HK0.out o hm)
          go_wp2_with (at_builtin; refine wpList_append_arg _ rfl (.tmp 40) (.tmp 42) 56 rfl 5 i0 (.int .u8 0) 1 1 Try.underlying56 hi hz0 hz1 hz2 rfl (by decide) g 0 s.size m ((List.replicate s.size 97).map fun b : UInt8 => Value.int .u8 (b.toNat : Int)) rfl (by simp) (HO.out _) ⟨wr.heap.size, 0, none⟩ 1 1 [.int .u8 (97 : UInt8).toNat] rfl rfl (push_new wr _) (by simp [Value.oneCell']) (HS.out _) (by unfold maxLen; omega) (by omega) ?_ ?_)
          · intro hm1
            obtain ⟨hbk, hbb⟩ := HA.out hm1 (.cells #[.int .u8 (((ByteArray.mk #[97, 98, 99])[0]'(by decide)).toNat : Int)] 5)
            have HBK := Lib.hid hbb
            clear hbb
            go_wp2
            go_ret
            exact next_ret (by rw [HN.out, HSZ.out, allA_list]) HBK.out
          · intro hm1 v' w2 hown hgr
            obtain ⟨g', c', rfl⟩ := ownsRow_succ hown
            obtain ⟨hbk, hbb⟩ := HG.out (.cells #[.int .u8 97] 5) w2 g' c' hown hgr
            have HBK := Lib.hid hbb
            clear hbb hown hgr
            go_wp2
            go_ret
            exact next_ret (by rw [HN.out, HSZ.out, allA_list]) HBK.out
      | succ k =>
        have hi2 : _ = Value.int .i64 (k : Int) := hi'.trans (congrArg (Value.int .i64) (by omega))
        clear hi'
        subst hi2
        have hk : k < s.size := by omega
        have hb := isW_at HW.out (by rw [HSZ.out]; exact hk : k < s.data.toList.length)
        obtain ⟨b, hbe⟩ : ∃ b, b = s.data.toList[k]'(by rw [HSZ.out]; exact hk) := ⟨_, rfl⟩
        rw [← hbe] at hb
        have hkl : k < s.data.toList.length := by rw [HSZ.out]; exact hk
        have hcell : wr.cell? ⟨g, k, none⟩ = some (.int .u8 (b.toNat : Int)) := by
          rw [HK.out.2.2.1 k (by rw [carried_length _ _ (by omega)]; exact hkl), carried_at _ k hkl, ← hbe]
        have hfr := (HK.out.2.2.2 k (by have := HK.out.2.1; rw [carried_length _ _ (by omega)] at this; omega)).2
        have HP := Lib.hid (put_letter HSZ.out hgl HK.out HBB.out hk)
        rcases letter_cases hb with h | h | h
        · subst h
          have HN := Lib.hid (HR.out.next hkl HW.out (by rw [← hbe]; decide))
          rw [← hbe] at HN
          have hbk : (convert 56 9 (.slice (some ⟨g, 0, none⟩) s.size m)).run Try.prog (wr.setCell ⟨g, k, none⟩ (.int .u8 (((ByteArray.mk #[97, 98, 99])[1]'(by decide)).toNat : Int))) = _ := put_back HSZ.out hgl HK.out HBB.out hk _
          clear hbe hb hkl
          go_wp2_with (go_at_call 47; refine (implLet_at 97 0 _ rfl).mono ?_; rintro e w' ⟨rfl, rfl⟩)
          go_ret
          exact next_ret (by rw [HN.out]; rfl) (HP.out _).2
        · subst h
          have HN := Lib.hid (HR.out.next hkl HW.out (by rw [← hbe]; decide))
          rw [← hbe] at HN
          have hbk : (convert 56 9 (.slice (some ⟨g, 0, none⟩) s.size m)).run Try.prog (wr.setCell ⟨g, k, none⟩ (.int .u8 (((ByteArray.mk #[97, 98, 99])[2]'(by decide)).toNat : Int))) = _ := put_back HSZ.out hgl HK.out HBB.out hk _
          clear hbe hb hkl
          go_wp2_with (go_at_call 47; refine (implLet_at 98 1 _ rfl).mono ?_; rintro e w' ⟨rfl, rfl⟩)
          go_ret
          exact next_ret (by rw [HN.out]; rfl) (HP.out _).2
        · subst h
          have HN := Lib.hid (HR.out.step hkl hbe.symm)
          have HS := Lib.hid (carried_step s.data.toList k hkl)
          have HQ := Lib.hid (carried_set s.data.toList k hkl 97)
          clear hbe hb hkl
          go_wp2_with (go_at_call 47; refine (implLet_at 99 2 _ rfl).mono ?_; rintro e w' ⟨rfl, rfl⟩)
          go_roundw
          case rel => exact ⟨k, rfl, by omega, HN.out, by rw [← HS.out, HQ.out]; exact (HP.out 97).1, (HP.out 97).2⟩
          case measure => simp [intOf]
end Go.Proofs.Ythmfncklepkddab
