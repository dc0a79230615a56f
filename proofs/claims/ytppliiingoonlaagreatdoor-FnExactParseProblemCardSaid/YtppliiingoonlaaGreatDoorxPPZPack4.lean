/- Texts of one proof. -/
import Derived.OneCell
import Derived.Test.YtppliiingoonlaaGreatDoorxPPZPack3
set_option maxRecDepth 100000
set_option maxHeartbeats 20000000
namespace Go.Proofs.YtppliiingoonlaaGreatDoor
open Go.RowKit
structure RowC (base : Nat) (w : World) (v : Value) (L : List Cx) (xs : List Value) : Prop where
  own : w.ownsRow base 29 8 v L.length xs
  el : ∃ s : Nat -> Nat, base <= s 0 /\ (∀ i, s i <= s (i + 1)) /\ s L.length <= w.heap.size /\ ∀ (j : Nat) (c : Cx), L[j]? = some c -> ∃ xu vc, (∀ i, i < 8 -> xs[j * 8 + i]? = (cxA c xu vc)[i]?) /\ CnT w (λ h => s j <= h /\ h < s (j + 1) /\ v.ownBlock ≠ some h) xu vc c
theorem RowC.start (base : Nat) (w : World) (h : base <= w.heap.size) : RowC base w (.slice none 0 0) [] [] :=
  ⟨World.ownsRow_nil _ _ _ _, λ _ => base, Nat.le_refl _, λ _ => Nat.le_refl _, h, λ j x h => by simp at h⟩
section
variable {base : Nat} {w : World} {v : Value} {L : List Cx} {xs : List Value}
theorem RowC.same {w' : World} (h : RowC base w v L xs) (hs : ∀ g, base <= g -> g < w.heap.size -> w'.heap[g]? = w.heap[g]?) (hz : w.heap.size <= w'.heap.size) : RowC base w' v L xs := by
  obtain ⟨hown, s, h0, hr, hm, hE⟩ := h
  refine ⟨row_same hown λ b hb' => hs b (hown.lt b hb').1 (hown.lt b hb').2, s, h0, hr, Nat.le_trans hm hz, λ j c hj => ?_⟩
  obtain ⟨xu, vc, hx, ht⟩ := hE j c hj
  have h1 := rising hr (show j + 1 <= L.length from (List.getElem?_eq_some_iff.1 hj).1)
  have h2 := rising hr (Nat.zero_le j)
  exact ⟨xu, vc, hx, ht.mono (λ g hg => hs g (by have := hg.1; omega) (by have := hg.2.1; omega)) (λ _ h => h)⟩
theorem RowC.below {w' : World} (h : RowC base w v L xs) (hb : Below w.heap.size w w') : RowC base w' v L xs := h.same (λ g _ hg => hb.block g hg) hb.size
theorem RowC.step {w1 w2 : World} {c : Cx} {xu vc v' : Value} (h : RowC base w v L xs) (_hbase : base <= w.heap.size) (hb : Below w.heap.size w w1) (hd : CnT w1 (OwnB w w1) xu vc c)
    (hown : w2.ownsRow base 29 8 v' (L.length + 1) (xs ++ (cxA c xu vc).toList)) (hz : w1.heap.size <= w2.heap.size) (hkeep : ∀ g, g < w1.heap.size -> v.ownBlock ≠ some g -> w2.heap[g]? = w1.heap[g]?) (hat : v'.ownBlock = v.ownBlock \/ ∃ q, v'.ownBlock = some q /\ w1.heap.size <= q) :
    RowC base w2 v' (L ++ [c]) (xs ++ (cxA c xu vc).toList) := by
  have hz1 := hb.size
  have hlx : xs.length = L.length * 8 := h.own.1
  have hvl : ∀ g, v.ownBlock = some g -> g < w.heap.size := λ g e => (h.own.lt g e).2
  have hne : ∀ g, v.ownBlock ≠ some g -> g < w1.heap.size -> v'.ownBlock ≠ some g := λ g h1 h2 e => by
    rcases hat with h' | ⟨q, h', h3⟩
    . exact h1 (h' ▸ e)
    . rw [h'] at e
      cases e
      omega
  obtain ⟨_, s, h0, hr, hm, hE⟩ := h
  refine ⟨by simpa using hown, cutAt s L.length w1.heap.size, by rw [cutAt_le (Nat.zero_le _)]; exact h0, λ i => ?_, by rw [cutAt_gt (by simp)]; exact hz, λ j y hy => ?_⟩
  . have := hr i
    by_cases e1 : i + 1 <= L.length
    . rw [cutAt_le (by omega), cutAt_le e1]; exact this
    . rw [cutAt_gt (by omega : L.length < i + 1)]
      by_cases e2 : i <= L.length
      . rw [cutAt_le e2]
        have := rising hr e2
        omega
      . rw [cutAt_gt (by omega)]; exact Nat.le_refl _
  by_cases hjl : j < L.length
  . rw [List.getElem?_append_left hjl] at hy
    obtain ⟨p, q, h2, h5⟩ := hE j y hy
    have h6 := rising hr (show j + 1 <= L.length from hjl)
    refine ⟨p, q, λ i hi => ?_, h5.mono (λ g hg => (hkeep g (by have := hg.2.1; omega) hg.2.2).trans (hb.block g (by have := hg.2.1; omega))) (λ g hg => ⟨by rw [cutAt_le (by omega)]; exact hg.1, by rw [cutAt_le (by omega)]; exact hg.2.1, hne g hg.2.2 (by have := hg.2.1; omega)⟩)⟩
    rw [List.getElem?_append_left (by omega)]
    exact h2 i hi
  . have hj2 := (List.getElem?_eq_some_iff.1 hy).1
    simp at hj2
    obtain rfl : j = L.length := by omega
    simp at hy
    subst hy
    have hnv : ∀ g, OwnB w w1 g -> v.ownBlock ≠ some g := λ g hg e => by
      have := hvl g e
      have := hg.1
      omega
    refine ⟨xu, vc, λ i hi => ?_, hd.mono (λ g hg => hkeep g hg.2 (hnv g hg)) (λ g hg => ⟨by rw [cutAt_le (Nat.le_refl _)]; have := hg.1; omega, by rw [cutAt_gt (Nat.lt_succ_self _)]; exact hg.2, hne g (hnv g hg) hg.2⟩)⟩
    rw [List.getElem?_append_right (by omega), hlx, show L.length * 8 + i - L.length * 8 = i by omega]
    simp
theorem RowC.shape (h : RowC base w v L xs) : ∃ A m, v = .slice A L.length m := by
  rcases h.own.2 with ⟨rfl, h0⟩ | ⟨g, cap, _, rfl, _⟩
  . exact ⟨none, 0, by rw [h0]⟩
  . exact ⟨_, cap, rfl⟩
theorem RowC.done (h : RowC base w v L xs) (hl : L.length <= maxI) : PrT w (λ g => base <= g /\ g < w.heap.size) v L := by
  obtain ⟨hown, s, h0, hr, hm, hE⟩ := h
  refine ⟨hl, ?_⟩
  have hlt := hown.lt
  obtain ⟨hlx, h2⟩ := hown
  rcases h2 with ⟨rfl, h00⟩ | ⟨g, cap, cur, rfl, hg, hh, hx⟩
  . exact .inl ⟨h00, none, 0, rfl⟩
  . have hgl := hlt g rfl
    refine .inr ⟨g, 0, cap, λ j h => j < L.length /\ s j <= h /\ h < s (j + 1) /\ h ≠ g, rfl, hgl, ⟨cur, _, hh⟩, λ j h hj => ?_, λ i j h hi hj => ?_, λ j c hj => ?_⟩
    . have h1 := rising hr (Nat.zero_le j)
      have h2 := rising hr (show j + 1 <= L.length from hj.1)
      have h3 := hj.2.1
      have h4 := hj.2.2.1
      exact ⟨⟨by omega, by omega⟩, hj.2.2.2⟩
    . have a1 := hi.2.1
      have a2 := hi.2.2.1
      have b1 := hj.2.1
      have b2 := hj.2.2.1
      by_cases e : i = j
      . exact e
      . by_cases e2 : i < j
        . have := rising hr (show i + 1 <= j from e2)
          omega
        . have := rising hr (show j + 1 <= i by omega)
          omega
    . obtain ⟨xu, vc, hxs, ht⟩ := hE j c hj
      have hjl := (List.getElem?_eq_some_iff.1 hj).1
      have k : ∀ i v, i < 8 -> (cxA c xu vc)[i]? = some v -> w.cell? ⟨g, 0 + j * 8 + i, none⟩ = some v := λ i v hi hv => by
        rw [Nat.zero_add]
        exact (World.ownsRow.cellAt ⟨hlx, .inr ⟨g, cap, cur, rfl, hg, hh, hx⟩⟩ (j * 8 + i) (by omega)).trans ((hxs i hi).trans hv)
      refine ⟨xu, vc, ⟨k 0 _ (by omega) rfl, k 1 _ (by omega) rfl, k 2 _ (by omega) rfl, k 3 _ (by omega) rfl, k 4 _ (by omega) rfl, k 5 _ (by omega) rfl, k 6 _ (by omega) rfl, k 7 _ (by omega) rfl⟩, ht.mono (λ _ _ => rfl) (λ h hh => ⟨hjl, hh.1, hh.2.1, λ e => hh.2.2 (by rw [e]; rfl)⟩)⟩
end
end Go.Proofs.YtppliiingoonlaaGreatDoor
namespace Go.Proofs.YtppliiingoonlaaGreatDoor
open Go.RowKit
theorem specSplit_any (s : ByteArray) (c : UInt8) (w : World) (hl : s.size <= 1048576) :
    Calls Tryz.prog 68 #[.string s, .int .u8 c.toNat] w (SplPost (spl c s.data.toList) w) := by
  obtain ⟨i0, hi, hz0, hz1, hz2⟩ := info_parts strInfo
  have hlen : s.data.toList.length = s.size := by simp
  have HLEN := Lib.hid hlen
  clear hlen
  go_enter Tryz.func68, Tryz.ntmps68
  go_wp2
  go_loopw [5, 6, 7] (λ v fr i wr => ∃ (k f : Nat) (P : List (List UInt8)), i = .int .i64 k /\ fr = .int .i64 f /\ k <= s.size + 1 /\ SplRel c s.data.toList P f k /\ wr.ownsRow w.heap.size 9 1 v P.length (strs P) /\ Below w.heap.size w wr) (λ _ _ i _ => s.size + 1 - (intOf i).toNat)
  case atStart => exact ⟨0, 0, [], rfl, rfl, by omega, SplRel.start _ _, World.ownsRow_made w #[] 0 (Nat.le_refl _) (by unfold maxLen; omega) rfl, (Below.refl _ _).alloc (Nat.le_refl _) _⟩
  case round =>
    obtain ⟨k, f, P, rfl, rfl, hk, hrel, hown, hb⟩ := hrel
    have hbd := hrel.bound
    rw [HLEN.out] at hbd
    obtain ⟨hf, hP, hfk⟩ := hbd
    have HR := Lib.hid hrel
    clear hrel
    by_cases hlt : k < s.size
    . have e1 : ((k : Int) == (s.size : Int)) = false := by simp; omega
      have hget : s.data.toList[k]? = some s[k] := by simp [hlt]; rfl
      have HG := Lib.hid hget
      clear hget
      obtain ⟨hfk1, hfk2⟩ := hfk (by omega)
      by_cases hq : s[k] = c
      . have hrel' := HR.out.hit (by rw [HLEN.out]; exact hlt) (HG.out.trans (by rw [hq]))
        have HR' := Lib.hid hrel'
        clear hrel'
        have e2 : ((s[k].toNat : Int) == (c.toNat : Int)) = true := by rw [hq]; simp
        clear hq
        go_wp2_with (at_builtin; refine wpList_append_own _ rfl (.tmp 26) (.tmp 31) 79 rfl w.heap.size 9 i0 (.string ⟨#[]⟩) 1 16 Tryz.underlying79 hi hz0 hz1 hz2 rfl (by decide) _ _ _ rfl (hown.alloc _) ⟨wr.heap.size, 0, none⟩ 1 1 [.string (s.extract f k)] rfl rfl (newCell wr _ (s.extract f k)) (oneCell_str _) (by unfold maxLen; omega) (by omega) (by have := hb.size; simp; omega) ?_)
        intro v' w1 hown' hgrow _
        have R := grow_strs (w := w) (extract_str s f k) hown hb hb.size hown' hgrow
        clear hown' hgrow hown hb
        go_wp2
        go_roundw
        case rel => exact ⟨k + 1, k + 1, _, by go_num, by go_num, by omega, HR'.out, R.1, R.2⟩
        case measure => simp [intOf]; omega
      . have hrel' := HR.out.pass (by rw [HLEN.out]; exact hlt) (λ e => hq (Option.some.inj (HG.out.symm.trans e)))
        have HR' := Lib.hid hrel'
        clear hrel'
        have e2 : ((s[k].toNat : Int) == (c.toNat : Int)) = false := by
          simp only [beq_eq_false_iff_ne, ne_eq]
          intro e
          exact hq (UInt8.toNat_inj.1 (by omega))
        clear hq
        go_wp2
        go_roundw
        case rel => exact ⟨k + 1, f, P, by go_num, rfl, by omega, HR'.out, hown, hb⟩
        case measure => simp [intOf]; omega
    . by_cases hle : k = s.size
      . subst hle
        have e1 : ((s.size : Int) == (s.size : Int)) = true := by simp
        have hrel' := HR.out
        rw [<- HLEN.out] at hrel'
        have hrel'' := hrel'.last
        rw [HLEN.out] at hrel''
        have HR' := Lib.hid hrel''
        clear hrel' hrel''
        obtain ⟨hfk1, hfk2⟩ := hfk (by omega)
        go_wp2_with (at_builtin; refine wpList_append_own _ rfl (.tmp 26) (.tmp 31) 79 rfl w.heap.size 9 i0 (.string ⟨#[]⟩) 1 16 Tryz.underlying79 hi hz0 hz1 hz2 rfl (by decide) _ _ _ rfl (hown.alloc _) ⟨wr.heap.size, 0, none⟩ 1 1 [.string (s.extract f s.size)] rfl rfl (newCell wr _ (s.extract f s.size)) (oneCell_str _) (by unfold maxLen; omega) (by omega) (by have := hb.size; simp; omega) ?_)
        intro v' w1 hown' hgrow _
        have R := grow_strs (w := w) (extract_str s f s.size) hown hb hb.size hown' hgrow
        clear hown' hgrow hown hb
        go_wp2
        go_roundw
        case rel => exact ⟨s.size + 1, s.size + 1, _, by go_num, by go_num, by omega, HR'.out, R.1, R.2⟩
        case measure => simp [intOf]
      . have hk1 : k = s.size + 1 := by omega
        subst hk1
        go_wp2
        go_ret
        exact ⟨_, rfl, by rw [HR.out.done (by rw [HLEN.out])]; exact hown, hb⟩
def strSize : Value -> Nat
  | .string t => t.size
  | _ => 0
theorem extract_rest (t : ByteArray) (o : Nat) : (t.extract (o + 1) t.size).data.toList = t.data.toList.drop (o + 1) := by
  simp
  exact List.take_of_length_le (by simp)
theorem extract_rest_size (t : ByteArray) (o : Nat) : (t.extract (o + 1) t.size).size = t.size - (o + 1) := by simp [ByteArray.size_extract]
theorem index_no (t : ByteArray) (c : UInt8) (w : World) (h : Lib.indexByte t.data.toList c = -1) :
    Calls Tryz.prog 100 #[.string t, .int .u8 c.toNat] w λ e w' => e = .returned (.int .i64 (-1)) /\ w = w' := by
  refine (Tryz.strings_IndexByte t c.toNat w).mono ?_
  rintro e w' ⟨rfl, rfl⟩
  have hc : ((c.toNat : Int)).toNat.toUInt8 = c := by simp
  rw [hc, h]
  exact ⟨rfl, rfl⟩
theorem index_yes (t : ByteArray) (c : UInt8) (o : Nat) (w : World) (h : Lib.indexByte t.data.toList c = o) :
    Calls Tryz.prog 100 #[.string t, .int .u8 c.toNat] w λ e w' => e = .returned (.int .i64 o) /\ w = w' := by
  refine (Tryz.strings_IndexByte t c.toNat w).mono ?_
  rintro e w' ⟨rfl, rfl⟩
  have hc : ((c.toNat : Int)).toNat.toUInt8 = c := by simp
  rw [hc, h]
  exact ⟨rfl, rfl⟩
theorem implSplit_any (s : ByteArray) (c : UInt8) (w : World) (hl : s.size <= 1048576) :
    Calls Tryz.prog 54 #[.string s, .int .u8 c.toNat] w (SplPost (spl c s.data.toList) w) := by
  obtain ⟨i0, hi, hz0, hz1, hz2⟩ := info_parts strInfo
  go_enter Tryz.func54, Tryz.ntmps54
  go_wp2
  go_loopw [0, 5] (λ sv v wr => ∃ (t : ByteArray) (P : List (List UInt8)), sv = .string t /\ t.size + P.length <= s.size /\ spl c s.data.toList = P ++ spl c t.data.toList /\ wr.ownsRow w.heap.size 9 1 v P.length (strs P) /\ Below w.heap.size w wr) (λ sv _ _ => strSize sv)
  case atStart => exact ⟨s, [], rfl, by simp, by simp, World.ownsRow_nil _ _ _ _, Below.refl _ _⟩
  case round =>
    obtain ⟨t, P, rfl, hsz, hsp, hown, hb⟩ := hrel
    have HSP := Lib.hid hsp
    clear hsp
    have hlen : t.data.toList.length = t.size := by simp
    have HLEN := Lib.hid hlen
    clear hlen
    by_cases hq : Lib.indexByte t.data.toList c = -1
    . have HI := Lib.hid (λ w => index_no t c w hq)
      have hone := spl_none c t.data.toList (λ b hbm e => by
        obtain ⟨k, hk⟩ := List.getElem?_of_mem hbm
        exact Lib.indexByte_none hq k (hk.trans (by rw [e])))
      have HONE := Lib.hid hone
      clear hq hone
      go_wp2_with (first
        | (go_at_call 100; refine (HI.out _).mono ?_; rintro e w' ⟨rfl, rfl⟩)
        | (at_builtin; refine wpList_append_own _ rfl (.tmp 12) (.tmp 14) 79 rfl w.heap.size 9 i0 (.string ⟨#[]⟩) 1 16 Tryz.underlying79 hi hz0 hz1 hz2 rfl (by decide) _ _ _ rfl (hown.alloc _) ⟨wr.heap.size, 0, none⟩ 1 1 [.string t] rfl rfl (newCell wr _ t) (oneCell_str _) (by unfold maxLen; omega) (by omega) (by have := hb.size; simp; omega) ?_))
      intro v' w1 hown' hgrow _
      have R := grow_strs (p := t.data.toList) (w := w) rfl hown hb hb.size hown' hgrow
      clear hown' hgrow hown hb
      go_wp2
      go_ret
      exact ⟨_, rfl, by rw [HSP.out, HONE.out]; exact R.1, R.2⟩
    . have hge := Lib.indexByte_ge t.data.toList c
      obtain ⟨o, ho⟩ : ∃ o : Nat, Lib.indexByte t.data.toList c = o := ⟨(Lib.indexByte t.data.toList c).toNat, by omega⟩
      have HI := Lib.hid (λ w => index_yes t c o w ho)
      obtain ⟨hat, hbef⟩ := Lib.indexByte_some ho
      have hot : o < t.size := by
        have := (List.getElem?_eq_some_iff.1 hat).1
        rw [HLEN.out] at this
        exact this
      have hone := spl_at c t.data.toList o hat hbef
      have HONE := Lib.hid hone
      clear hq hone hat hbef ho hge
      go_wp2_with (first
        | (go_at_call 100; refine (HI.out _).mono ?_; rintro e w' ⟨rfl, rfl⟩)
        | (at_builtin; refine wpList_append_own _ rfl (.tmp 16) (.tmp 20) 79 rfl w.heap.size 9 i0 (.string ⟨#[]⟩) 1 16 Tryz.underlying79 hi hz0 hz1 hz2 rfl (by decide) _ _ _ rfl (hown.alloc _) ⟨wr.heap.size, 0, none⟩ 1 1 [.string (t.extract 0 o)] rfl rfl (newCell wr _ (t.extract 0 o)) (oneCell_str _) (by unfold maxLen; omega) (by omega) (by have := hb.size; simp; omega) ?_))
      intro v' w1 hown' hgrow _
      have R := grow_strs (w := w) (extract_str t 0 o) hown hb hb.size hown' hgrow
      clear hown' hgrow hown hb
      go_wp2
      go_roundw
      case rel => exact ⟨t.extract (o + 1) t.size, P ++ [(t.data.toList.drop 0).take (o - 0)], rfl, by rw [extract_rest_size]; simp; omega, by rw [HSP.out, HONE.out, extract_rest]; simp, R.1, R.2⟩
      case measure => show (t.extract (o + 1) t.size).size < t.size; rw [extract_rest_size]; omega
#print axioms implSplit_any
theorem readN_of {l : List UInt8} {v : Int} {ok : Bool} (h : InRange (-999999999999) 999999999999 l v ok) : v = readN l := by
  rcases h with ⟨_, rfl, h0, h1⟩ | ⟨_, rfl, hn⟩
  . exact (readN_itoa h0 h1).symm
  . unfold readN
    rw [dif_neg (λ ⟨n, h0, h1, e⟩ => hn n h0 h1 e)]
def NumPost (l : List UInt8) (w : World) (e : Ending) (w' : World) : Prop := ∃ ok, e = .returned (.tuple #[.int .i64 (readN l), .bool ok]) /\ Below w.heap.size w w'
theorem specNum_any (s : ByteArray) (w : World) (hs : s.size <= maxLen) : Calls Tryz.prog 176 #[.string s] w (NumPost s.data.toList w) :=
  (specParseInt_any s w hs).mono λ _ _ ⟨v, ok, he, hr, hb⟩ => ⟨ok, by rw [he, readN_of hr], hb⟩
def NR (w : World) (B : Nat) (v : Value) (l : List Int) : Prop := w.ownsRow B 3 1 v l.length (ints l)
theorem nr_block {w : World} {B : Nat} {v : Value} {l : List Int} (h : NR w B v l) {g : Nat} (hg : v.ownBlock = some g) : ∃ cur, w.heap[g]? = some (.cells cur 3 (0, 0)) := by
  rcases h.2 with ⟨rfl, _⟩ | ⟨g', cap, cur, rfl, _, hh, _⟩
  . simp [Value.ownBlock] at hg
  . simp [Value.ownBlock] at hg
    subst hg
    exact ⟨cur, hh⟩
theorem nr_below {w w' : World} {B : Nat} {v : Value} {l : List Int} (h : NR w B v l) (hb : Below w.heap.size w w') : NR w' B v l := owns_below h hb
theorem nr_shape {w : World} {B : Nat} {e : TypeId} {v : Value} {k : Nat} {xs : List Value} (h : w.ownsRow B e 1 v (k + 1) xs) : ∃ g c, v = .slice (some ⟨g, 0, none⟩) (k + 1) c := by
  rcases h.2 with ⟨_, h0⟩ | ⟨g, cap, _, rfl, _⟩
  . omega
  . exact ⟨g, cap, rfl⟩
theorem nr_any {w : World} {B : Nat} {v : Value} {l : List Int} (h : NR w B v l) : ∃ A c, v = .slice A l.length c := by
  rcases h.2 with ⟨rfl, h0⟩ | ⟨g, cap, _, rfl, _⟩
  . exact ⟨none, 0, by rw [h0]⟩
  . exact ⟨_, cap, rfl⟩
structure OutC (B : Nat) (w : World) (bo : Nat) (c : Cx) (xu vc : Value) (l : List Int) : Prop where
  box : w.heap[bo]? = some (.cells (cxA c xu vc) 29 (0, 0))
  low : B <= bo
  row : NR w B vc l
theorem OutC.boxC {B : Nat} {w : World} {bo : Nat} {c : Cx} {xu vc : Value} {l : List Int} (h : OutC B w bo c xu vc l) : BoxC w bo c xu vc := ⟨_, h.box⟩
theorem OutC.below {B : Nat} {w w' : World} {bo : Nat} {c : Cx} {xu vc : Value} {l : List Int} (h : OutC B w bo c xu vc l) (hb : Below w.heap.size w w') : OutC B w' bo c xu vc l :=
  ⟨(hb.block bo h.boxC.lt).trans h.box, h.low, nr_below h.row hb⟩
theorem outC_ne {B : Nat} {w : World} {bo : Nat} {c : Cx} {xu vc v : Value} {l m : List Int} (h : OutC B w bo c xu vc l) (hn : NR w B v m) {g : Nat} (hg : v.ownBlock = some g) : g ≠ bo := λ e => by
  subst e
  obtain ⟨cur, hh⟩ := nr_block hn hg
  have := hh.symm.trans h.box
  simp at this
theorem OutC.push {B : Nat} {w w7 : World} {bo : Nat} {c : Cx} {xu vc v' : Value} {l : List Int} {x : Int} {o : Obj} (h : OutC B w bo c xu vc l)
    (hown : w7.ownsRow B 3 1 v' (l.length + 1) (ints l ++ [.int .i64 x])) (hg : (w.alloc o).grownBy w7 vc.ownBlock) :
    OutC B (w7.setCell ⟨bo, 6, none⟩ v') bo c xu v' (l ++ [x]) /\ (∀ C, C <= B -> Below C (w.alloc o) (w7.setCell ⟨bo, 6, none⟩ v')) /\ CellC w7 bo c xu vc /\ w7.frozen? ⟨bo, 6, none⟩ = false := by
  have hlt := h.boxC.lt
  have hne : vc.ownBlock ≠ some bo := λ e => outC_ne h h.row e rfl
  have hb7 : w7.heap[bo]? = some (.cells (cxA c xu vc) 29 (0, 0)) := by
    rw [hg.block bo (by simp; omega) (λ e => hne e.symm)]
    exact (Below.heap_alloc w o bo hlt).trans h.box
  have hn7 : NR w7 B v' (l ++ [x]) := by
    unfold NR
    rw [show ints (l ++ [x]) = ints l ++ [.int .i64 x] by simp [ints], List.length_append]
    exact hown
  have hne7 : ∀ g, v'.ownBlock = some g -> g ≠ bo := λ g hg e => by
    subst e
    obtain ⟨cur, hh⟩ := nr_block hn7 hg
    have := hh.symm.trans hb7
    simp at this
  refine ⟨⟨?_, h.low, ?_⟩, λ C hC => ?_, BoxC.cells ⟨_, hb7⟩, frozen_of_row w7 bo 6 _ _ hb7⟩
  . have := heap_setCell_same w7 bo 6 _ _ v' hb7
    simpa [cxA] using this
  . unfold NR
    obtain ⟨h1, h2⟩ := hn7
    refine ⟨h1, ?_⟩
    rcases h2 with h2 | ⟨g, cap, cur, rfl, h3, h4, h5⟩
    . exact .inl h2
    . refine .inr ⟨g, cap, cur, rfl, h3, ?_, h5⟩
      rw [Below.heap_setCell _ _ _ g (λ e => hne7 g rfl e)]
      exact h4
  . have hbw : Below C (w.alloc o) w7 := ⟨hg.os, hg.tape, hg.output, hg.size, λ k hk => hg.block k (by
      have := h.boxC.lt
      have := h.low
      simp
      omega) (λ e => by
        have := (h.row.lt k (by rw [e])).1
        omega)⟩
    exact hbw.setCell (p := ⟨bo, 6, none⟩) (Nat.le_trans hC h.low) _
theorem NR.own {w : World} {B : Nat} {v : Value} {l : List Int} (h : NR w B v l) (hl : l.length <= 9223372036854775807) : RowO w (λ g => B <= g /\ g < w.heap.size) v (ints l) :=
  (RowO.of_owns h hl).any λ g hg => h.lt g hg
noncomputable def lenCx (ps : List (List UInt8)) : Cx := ⟨5, ⟨#[]⟩, ⟨#[]⟩, 0, ⟨#[]⟩, .nil, ((ps.drop 1).take (ps.length - 2)).map readN, readN (ps.getLastD [])⟩
theorem strRow_at {w : World} {B : Nat} {v : Value} {ps : List (List UInt8)} (h : w.ownsRow B 9 1 v ps.length (strs ps)) (hn : 1 <= ps.length) :
    ∃ g c, v = .slice (some ⟨g, 0, none⟩) ps.length c /\ g < w.heap.size /\ ∀ j (hj : j < ps.length), w.cell? ⟨g, j, none⟩ = some (.string ⟨ps[j].toArray⟩) := by
  obtain ⟨_, h2⟩ := id h
  rcases h2 with ⟨_, h0⟩ | ⟨g, cap, cur, rfl, _, hh, _⟩
  . omega
  . refine ⟨g, cap, rfl, (Array.getElem?_eq_some_iff.1 hh).1, λ j hj => ?_⟩
    have := h.cellAt j (by omega)
    rw [this]
    simp [strs, hj]
theorem specLen_any (ps : List (List UInt8)) (v : Value) (B : Nat) (w : World) (hown : w.ownsRow B 9 1 v ps.length (strs ps)) (hn : 1 <= ps.length) (hn2 : ps.length <= 1048577) (hz : ∀ p ∈ ps, p.length <= 1048576) :
    Calls Tryz.prog 122 #[v] w (CopyC (lenCx ps) w) := by
  obtain ⟨g, c, rfl, hg, hc⟩ := strRow_at hown hn
  have HC := Lib.hid (λ (V : World) (hb : Below w.heap.size w V) j (hj : j < ps.length) => (hb.cell (p := ⟨g, j, none⟩) hg).trans (hc j hj))
  have HP := Lib.hid (λ (j : Nat) (hj : j < ps.length) (V : World) => specNum_any ⟨ps[j].toArray⟩ V (by have := hz _ (List.getElem_mem hj); show ps[j].toArray.size <= maxLen; rw [List.size_toArray]; unfold maxLen; omega))
  clear hown hc hz
  obtain ⟨n, hN⟩ : ∃ n, ps.length = n + 1 := ⟨ps.length - 1, by omega⟩
  rw [hN]
  go_enter Tryz.func122, Tryz.ntmps122
  go_wp2_with fail
  obtain ⟨W1, hW1⟩ : ∃ W1, W1 = (w.alloc (.cells #[.int .i64 0, .string ⟨#[]⟩, .string ⟨#[]⟩, .int .i64 0, .string ⟨#[]⟩, .slice none 0 0, .slice none 0 0, .int .i64 0] 29)).alloc (.cells #[.int .i64 5, .string ⟨#[]⟩, .string ⟨#[]⟩, .int .i64 0, .string ⟨#[]⟩, .slice none 0 0, .slice none 0 0, .int .i64 0] 29) := ⟨_, rfl⟩
  rw [<- hW1]
  have hz1 : W1.heap.size = w.heap.size + 1 + 1 := by rw [hW1]; simp
  have hbw1 : Below w.heap.size w W1 := by rw [hW1]; exact ((Below.refl _ _).alloc (Nat.le_refl _) _).alloc (by simp) _
  have ho1 : OutC (w.heap.size + 1) W1 (w.heap.size + 1) ⟨5, ⟨#[]⟩, ⟨#[]⟩, 0, ⟨#[]⟩, .nil, [], 0⟩ (.slice none 0 0) (.slice none 0 0) [] := by
    refine ⟨?_, Nat.le_refl _, World.ownsRow_nil _ _ _ _⟩
    rw [hW1]
    have := heap_alloc_new (w.alloc (.cells #[.int .i64 0, .string ⟨#[]⟩, .string ⟨#[]⟩, .int .i64 0, .string ⟨#[]⟩, .slice none 0 0, .slice none 0 0, .int .i64 0] 29)) (.cells #[.int .i64 5, .string ⟨#[]⟩, .string ⟨#[]⟩, .int .i64 0, .string ⟨#[]⟩, .slice none 0 0, .slice none 0 0, .int .i64 0] 29)
    rw [World.size_alloc] at this
    exact this
  have hr1 : W1.heap[w.heap.size]? = some (.cells #[.int .i64 0, .string ⟨#[]⟩, .string ⟨#[]⟩, .int .i64 0, .string ⟨#[]⟩, .slice none 0 0, .slice none 0 0, .int .i64 0] 29 (0, 0)) := by
    rw [hW1]
    exact (Below.heap_alloc _ _ _ (by simp)).trans (heap_alloc_new w _)
  have HO1 := Lib.hid ho1
  have HR1 := Lib.hid hr1
  have HBW1 := Lib.hid hbw1
  have HZ1 := Lib.hid hz1
  obtain ⟨i0, hi, hi0, hi1, hi2⟩ := info_parts intInfo
  clear hW1 ho1 hr1 hbw1 hz1
  go_loopw [4] (λ i wr => ∃ (k : Nat) (vr : Value), i = .int .i64 k /\ 1 <= k /\ (k = 1 \/ k <= n) /\ OutC (w.heap.size + 1) wr (w.heap.size + 1) ⟨5, ⟨#[]⟩, ⟨#[]⟩, 0, ⟨#[]⟩, .nil, [], 0⟩ (.slice none 0 0) vr (((ps.drop 1).take (k - 1)).map readN) /\ Below (w.heap.size + 1) W1 wr) (λ i _ => n + 1 - (intOf i).toNat)
  case atStart => exact ⟨1, _, rfl, Nat.le_refl _, Or.inl rfl, by simpa using HO1.out, Below.refl _ _⟩
  case round =>
    obtain ⟨k, vr, rfl, hk1, hk2, ho, hb⟩ := hrel
    have HO := Lib.hid ho
    have HB := Lib.hid hb
    have hbo := HBW1.out.trans (hb.mono (by omega))
    obtain ⟨Av, cv, rfl⟩ := nr_any ho.row
    obtain ⟨l, hl⟩ : ∃ l, l = ((ps.drop 1).take (k - 1)).map readN := ⟨_, rfl⟩
    rw [<- hl] at HO
    have hll : l.length <= 1048577 := by rw [hl, List.length_map, List.length_take]; omega
    have HLL := Lib.hid hl
    clear ho hb hl
    obtain ⟨b0, b1, b2, b3, b4, b5, b6, b7⟩ := HO.out.boxC.cells
    by_cases hlt : k < n
    . have hk : k < ps.length := by omega
      have hcell := HC.out _ hbo k hk
      have HPk := Lib.hid (λ V => HP.out k hk V)
      obtain ⟨px, hpx⟩ : ∃ px : ByteArray, px = ⟨ps[k].toArray⟩ := ⟨_, rfl⟩
      have HPX := Lib.hid (show px.data.toList = ps[k] by rw [hpx])
      rw [<- hpx] at hcell HPk
      have hkl : ((k : Int) < (n : Int)) := by omega
      clear hpx
      go_wp2_with fail
      refine (HPk.out _).mono ?_
      rintro e' w2 ⟨ok, rfl, hb2⟩
      have HO2 := Lib.hid (HO.out.below hb2)
      have HB2 := Lib.hid (HB.out.trans (hb2.mono (by have := HB.out.size; have := HZ1.out; omega)))
      obtain ⟨x, hx⟩ : ∃ x, x = readN ps[k] := ⟨_, rfl⟩
      have HLN := Lib.hid (show l ++ [x] = ((ps.drop 1).take (k + 1 - 1)).map readN by
        rw [HLL.out, hx, <- List.map_singleton, <- List.map_append]
        congr 1
        obtain ⟨q, rfl⟩ : ∃ q, k = q + 1 := ⟨k - 1, by omega⟩
        rw [Nat.add_sub_cancel, Nat.add_sub_cancel, List.take_succ_eq_append_getElem (by simp; omega)]
        simp)
      rw [<- hx]
      clear hb2 hcell b0 b1 b2 b3 b4 b5 b6 b7 hx
      obtain ⟨b0, b1, b2, b3, b4, b5, b6, b7⟩ := HO2.out.boxC.cells
      have hz2 : w.heap.size + 1 <= w2.heap.size := by have := HB2.out.size; have := HZ1.out; omega
      go_wp2_with (at_builtin; refine wpList_append_own _ rfl (.tmp 26) (.tmp 28) 27 rfl (w.heap.size + 1) 3 i0 (.int .i64 0) 1 8 Tryz.underlying27 hi hi0 hi1 hi2 rfl (by decide) _ _ _ rfl (HO2.out.row.alloc _) ⟨w2.heap.size, 0, none⟩ 1 1 [.int .i64 x] rfl rfl (cell_one_new _ _ _) (by simp [Value.oneCell']) (by unfold maxLen; omega) (by omega) (by simp; omega) ?_)
      intro v' w7 hown' hgrow _
      obtain ⟨gv, cv, rfl⟩ := nr_shape hown'
      obtain ⟨hp1, hp2, hp3, hp4⟩ := HO2.out.push hown' hgrow
      have HP1 := Lib.hid hp1
      have HP2 := Lib.hid (HB2.out.trans (((Below.refl _ _).alloc (Nat.le_refl w2.heap.size) _).mono (by have := HB2.out.size; have := HZ1.out; omega) |>.trans (hp2 _ (Nat.le_refl _))))
      obtain ⟨b0', b1', b2', b3', b4', b5', b6', b7'⟩ := hp3
      clear hown' hgrow hp1 hp2 b0 b1 b2 b3 b4 b5 b6 b7
      go_wp2_with fail
      go_roundw
      case rel => exact ⟨k + 1, _, by go_num, by omega, Or.inr (by omega), by rw [<- HLN.out]; exact HP1.out, HP2.out⟩
      case measure => simp [intOf]; omega
    . have hkl : ¬ ((k : Int) < (n : Int)) := by omega
      have hcell := HC.out _ hbo n (by omega)
      have HPk := Lib.hid (λ V => HP.out n (by omega) V)
      have HLast := Lib.hid (show ps[n] = ps.getLastD [] by rw [List.getLastD_eq_getLast?, List.getLast?_eq_getElem?, List.getElem?_eq_getElem (by omega)]; simp only [hN, Nat.add_sub_cancel]; rfl)
      have HL2 := Lib.hid (show l = ((ps.drop 1).take (ps.length - 2)).map readN by
        rw [HLL.out, hN]
        rcases hk2 with rfl | h
        . rw [show n + 1 - 2 = 0 by omega]
        . rw [show k - 1 = n + 1 - 2 by omega])
      obtain ⟨px, hpx⟩ : ∃ px : ByteArray, px = ⟨ps[n].toArray⟩ := ⟨_, rfl⟩
      rw [<- hpx] at hcell HPk
      clear hpx
      go_wp2_with fail
      refine (HPk.out _).mono ?_
      rintro e' w2 ⟨ok, rfl, hb2⟩
      have HO2 := Lib.hid (HO.out.below hb2)
      have HB2 := Lib.hid (HB.out.trans (hb2.mono (by have := HB.out.size; have := HZ1.out; omega)))
      obtain ⟨x, hx⟩ : ∃ x, x = readN ps[n] := ⟨_, rfl⟩
      rw [<- hx]
      have HX := Lib.hid (show x = readN (ps.getLastD []) by rw [hx, HLast.out])
      clear hb2 hcell b0 b1 b2 b3 b4 b5 b6 b7 hx
      obtain ⟨b0, b1, b2, b3, b4, b5, b6, b7⟩ := HO2.out.boxC.cells
      have hrb : w2.heap[w.heap.size]? = some (.cells (cxA zeroX (.slice none 0 0) (.slice none 0 0)) 29 (0, 0)) := (HB2.out.block w.heap.size (Nat.lt_succ_self _)).trans HR1.out
      obtain ⟨r0, r1, r2, r3, r4, r5, r6, r7⟩ := BoxC.cells (c := zeroX) ⟨_, hrb⟩
      have HRB := Lib.hid hrb
      have f7 := HO2.out.boxC.frozen 7
      have fr := BoxC.frozen (c := zeroX) ⟨_, hrb⟩
      have f00 := fr 0
      have f01 := fr 1
      have f02 := fr 2
      have f03 := fr 3
      have f04 := fr 4
      have f05 := fr 5
      have f06 := fr 6
      have f07 := fr 7
      clear hrb fr
      go_wp2_with fail
      have hX := HO2.out.row
      obtain ⟨X, hXe⟩ : ∃ X, X = w2.setCell ⟨w.heap.size + 1, 7, none⟩ (.int .i64 x) := ⟨_, rfl⟩
      have hXb : X.heap[w.heap.size]? = some (.cells (cxA zeroX (.slice none 0 0) (.slice none 0 0)) 29 (0, 0)) := by
        rw [hXe, Below.heap_setCell _ _ _ _ (by simp)]
        exact HRB.out
      have hXz : X.heap.size = w2.heap.size := by rw [hXe]; simp [World.setCell]
      have hXo : ∀ g, g ≠ w.heap.size + 1 -> X.heap[g]? = w2.heap[g]? := λ g hg => by rw [hXe, Below.heap_setCell _ _ _ _ hg]
      have hXw : Below w.heap.size w X := by
        rw [hXe]
        exact (HBW1.out.trans (HB2.out.mono (by omega))).setCell (p := ⟨w.heap.size + 1, 7, none⟩) (by simp) _
      rw [<- hXe]
      have hle : l.length <= 9223372036854775807 := by omega
      have hrow : RowO X (λ g => w.heap.size < g /\ g < X.heap.size) (.slice Av l.length cv) (ints l) := by
        refine (RowO.of_owns hX hle).mono (λ g hg => hXo g (outC_ne HO2.out HO2.out.row hg)) (λ g hg => ?_)
        have := HO2.out.row.lt g hg
        omega
      obtain ⟨⟨k0, k1, k2, k3, k4, k5, k6, k7⟩, hcp⟩ := copyC_end (w := w) (c := ⟨5, ⟨#[]⟩, ⟨#[]⟩, 0, ⟨#[]⟩, .nil, l, x⟩) (xu := .slice none 0 0) (vc := .slice Av l.length cv) hXb rfl (CnT.num (Nat.zero_le _) (Nat.zero_le _) (Nat.zero_le _) rfl hrow (λ _ h => h)) hXw
      unfold put8 at k0 k1 k2 k3 k4 k5 k6 k7 hcp
      refine bodyPost_ret (v := .agg #[.int .i64 5, .string ⟨#[]⟩, .string ⟨#[]⟩, .int .i64 0, .string ⟨#[]⟩, .slice none 0 0, .slice Av l.length cv, .int .i64 x]) (by simp [results, Tryz.results122, go_sem, k0, k1, k2, k3, k4, k5, k6, k7]) rfl ?_
      rw [show lenCx ps = ⟨5, ⟨#[]⟩, ⟨#[]⟩, 0, ⟨#[]⟩, .nil, l, x⟩ by rw [lenCx, HL2.out, HX.out]]
      exact hcp
theorem implLet_any (b : UInt8) (w : World) :
    Calls Tryz.prog 179 #[.int .u8 b.toNat] w λ e w' => e = .returned (.int .i64 (letIdx b)) /\ w = w' := by
  have HL := Lib.hid (letIdx_lib b)
  go_enter Tryz.func179, Tryz.ntmps179
  go_wp2_with (go_at_call 100; refine (Tryz.strings_IndexByte _ _ _).mono ?_; rintro e w' ⟨rfl, rfl⟩)
  go_ret
  have hc : ((b.toNat : Int)).toNat.toUInt8 = b := by simp
  refine ⟨?_, rfl⟩
  rw [<- HL.out]
  simp
theorem box_kept {w w1 : World} {a b c : Value} {t : TypeId} (hb : Below (w.heap.size + 1) (w.alloc (.cells #[a, b, c] t)) w1) :
    w1.heap[w.heap.size]? = some (.cells #[a, b, c] t (0, 0)) /\ w1.cell? ⟨w.heap.size, 0, none⟩ = some a /\ w1.cell? ⟨w.heap.size, 1, none⟩ = some b /\ w1.cell? ⟨w.heap.size, 2, none⟩ = some c /\
      w1.frozen? ⟨w.heap.size, 0, none⟩ = false /\ w1.frozen? ⟨w.heap.size, 1, none⟩ = false /\ w1.frozen? ⟨w.heap.size, 2, none⟩ = false := by
  have h := (hb.block w.heap.size (Nat.lt_succ_self _)).trans (heap_alloc_new w _)
  exact ⟨h, (cell_of_row w1 _ 0 _ _ (0, 0) h).trans rfl, (cell_of_row w1 _ 1 _ _ (0, 0) h).trans rfl, (cell_of_row w1 _ 2 _ _ (0, 0) h).trans rfl, frozen_of_row w1 _ 0 _ _ h, frozen_of_row w1 _ 1 _ _ h, frozen_of_row w1 _ 2 _ _ h⟩
theorem box_grown {w w1 : World} {a b c : Value} {t : TypeId} {g : Nat} (hg : (w.alloc (.cells #[a, b, c] t)).grownBy w1 (some g)) (hlt : g < w.heap.size) :
    w1.heap[w.heap.size]? = some (.cells #[a, b, c] t (0, 0)) /\ w1.cell? ⟨w.heap.size, 0, none⟩ = some a /\ w1.cell? ⟨w.heap.size, 1, none⟩ = some b /\ w1.cell? ⟨w.heap.size, 2, none⟩ = some c /\
      w1.frozen? ⟨w.heap.size, 0, none⟩ = false /\ w1.frozen? ⟨w.heap.size, 1, none⟩ = false /\ w1.frozen? ⟨w.heap.size, 2, none⟩ = false := by
  have h := (hg.block w.heap.size (by simp) (by simp; omega)).trans (heap_alloc_new w _)
  exact ⟨h, (cell_of_row w1 _ 0 _ _ (0, 0) h).trans rfl, (cell_of_row w1 _ 1 _ _ (0, 0) h).trans rfl, (cell_of_row w1 _ 2 _ _ (0, 0) h).trans rfl, frozen_of_row w1 _ 0 _ _ h, frozen_of_row w1 _ 1 _ _ h, frozen_of_row w1 _ 2 _ _ h⟩
theorem grown_tr {a b c : World} {row : Option Nat} (h : a.grownBy b row) (k : b.grownBy c row) : a.grownBy c row :=
  ⟨k.os.trans h.os, k.tape.trans h.tape, k.output.trans h.output, Nat.le_trans h.size k.size, λ i hi hne => (k.block i (Nat.lt_of_lt_of_le hi h.size) hne).trans (h.block i hi hne)⟩
theorem grown_new {w w1 w2 : World} {row : Option Nat} (h : w.grownBy w1 row) (hs : w2.heap.size = w1.heap.size) (ho : w2.os = w1.os /\ w2.tape = w1.tape /\ w2.output = w1.output) {n : Nat} (hn : w.heap.size <= n) (hb : ∀ k, k ≠ n -> w2.heap[k]? = w1.heap[k]?) : w.grownBy w2 row :=
  ⟨ho.1.trans h.os, ho.2.1.trans h.tape, ho.2.2.trans h.output, by rw [hs]; exact h.size, λ k hk hne => (hb k (by omega)).trans (h.block k hk hne)⟩
theorem abc0 : (⟨#[97, 98, 99]⟩ : ByteArray).extract 0 1 = ⟨#[97]⟩ := by rfl
theorem abc1 : (⟨#[97, 98, 99]⟩ : ByteArray).extract 1 2 = ⟨#[98]⟩ := by rfl
theorem abc2 : (⟨#[97, 98, 99]⟩ : ByteArray).extract 2 3 = ⟨#[99]⟩ := by rfl
def RdYes (d : Nat) (x : Nd) (t : List UInt8) (w : World) (e : Ending) (w' : World) : Prop :=
  ∃ u rs, e = .returned (.tuple #[.agg #[.int .i64 x.1, .string x.2.1, u], .string rs, .bool true]) /\ rs.data.toList = t /\ SlT w' d (OwnB w w') u x.2.2 /\ Below w.heap.size w w'
def RdNo (w : World) (e : Ending) (w' : World) : Prop :=
  e = .returned (.tuple #[.agg #[.int .i64 0, .string ⟨#[]⟩, .slice none 0 0], .string ⟨#[]⟩, .bool false]) /\ Below w.heap.size w w'
def RdPost (d : Nat) (s : List UInt8) (w : World) (e : Ending) (w' : World) : Prop :=
  match parse d s with
  | some (x, t) => RdYes d x t w e w'
  | none => RdNo w e w'
theorem first_byte {s : ByteArray} {c : UInt8} {r : List UInt8} (h : s.data.toList = c :: r) : ∃ h0 : 0 < s.size, s[0]'h0 = c /\ (s.extract 1 s.size).data.toList = r /\ s.extract 0 1 = ⟨#[c]⟩ := by
  have hl : s.data.toList.length = r.length + 1 := by rw [h]; rfl
  have h0 : 0 < s.size := by
    have : s.data.size = r.length + 1 := by rw [<- Array.length_toList]; exact hl
    show 0 < s.data.size
    omega
  have hs : s = ⟨(c :: r).toArray⟩ := by
    cases s with
    | mk a => simp at h; rw [<- h]
  refine ⟨h0, ?_, ?_, ?_⟩
  . subst hs; rfl
  . subst hs
    simp only [ByteArray.data_extract, Array.toList_extract, List.extract_eq_take_drop]
    simp
    exact List.take_of_length_le (by show r.length <= (c :: r).toArray.size - 1; simp)
  . subst hs
    apply ByteArray.ext
    simp [ByteArray.data_extract]
theorem no_byte {b c : UInt8} (h : ¬ b = c) : ((b.toNat : Int) == (c.toNat : Int)) = false := by
  rw [beq_eq_false_iff_ne]
  intro e
  exact h (UInt8.toNat_inj.1 (by omega))
theorem pref_any (s : ByteArray) (c : UInt8) (b : Bool) (h : Lib.hasPrefix s.data.toList [c] = b) (w : World) : Calls Tryz.prog 243 #[.string s, .string ⟨#[c]⟩] w λ e w' => e = .returned (.bool b) /\ w = w' :=
  (Tryz.strings_HasPrefix s ⟨#[c]⟩ w).mono λ _ _ ⟨he, hw⟩ => ⟨by rw [he, <- h], hw.symm⟩
theorem pref_cons (b c : UInt8) (r : List UInt8) : Lib.hasPrefix (b :: r) [c] = (c == b) := by simp [Lib.hasPrefix, List.isPrefixOf]
theorem sign_ret {l r : List UInt8} {k : Int} {rs : ByteArray} (h : signB l = (k, r)) : Ending.returned (.tuple #[.int .i64 k, .string rs]) = .returned (.tuple #[.int .i64 (signB l).1, .string rs]) := by rw [h]
def SignPost (s : ByteArray) (w : World) (e : Ending) (w' : World) : Prop := (∃ rs, e = .returned (.tuple #[.int .i64 (signB s.data.toList).1, .string rs]) /\ rs.data.toList = (signB s.data.toList).2) /\ Below w.heap.size w w'
theorem readSign_any (s : ByteArray) (w : World) (hs : s.size <= 9223372036854775807) : Calls Tryz.prog 242 #[.string s] w (SignPost s w) := by
  cases hl : s.data.toList with
  | nil =>
    have H1 := Lib.hid (λ w => pref_any s 124 false (by rw [hl]; rfl) w)
    have H2 := Lib.hid (λ w => pref_any s 38 false (by rw [hl]; rfl) w)
    have HL := Lib.hid hl
    clear hl
    go_enter Tryz.func242, Tryz.ntmps242
    go_wp2_with fail
    refine (H1.out _).mono ?_
    rintro e w1 ⟨rfl, rfl⟩
    go_wp2_with fail
    refine (H2.out _).mono ?_
    rintro e w1 ⟨rfl, rfl⟩
    go_wp2_with fail
    go_ret2
    exact ⟨⟨s, sign_ret (r := []) (by rw [HL.out]; rfl), by rw [HL.out]; rfl⟩, Below.refl _ _⟩
  | cons c r =>
    obtain ⟨h0, hb, hr, _⟩ := first_byte hl
    by_cases h1 : c = 124
    . have H1 := Lib.hid (λ w => pref_any s 124 true (by rw [hl, pref_cons, h1]; rfl) w)
      have HL := Lib.hid (show signB s.data.toList = (6, r) by rw [hl, signB_cons, if_pos h1])
      have HR := Lib.hid hr
      have hs1 : 1 <= s.size := h0
      clear hl hb hr h1
      go_enter Tryz.func242, Tryz.ntmps242
      go_wp2_with fail
      refine (H1.out _).mono ?_
      rintro e w1 ⟨rfl, rfl⟩
      go_wp2_with fail
      go_region
      all_goals
        go_wp2_with fail
        go_ret2
        exact ⟨⟨_, sign_ret HL.out, by rw [HL.out]; exact HR.out⟩, below_draws (Below.refl _ _) _⟩
    . have H1 := Lib.hid (λ w => pref_any s 124 false (by rw [hl, pref_cons]; exact beq_eq_false_iff_ne.2 (λ e => h1 e.symm)) w)
      by_cases h2 : c = 38
      . have H2 := Lib.hid (λ w => pref_any s 38 true (by rw [hl, pref_cons, h2]; rfl) w)
        have HL := Lib.hid (show signB s.data.toList = (7, r) by rw [hl, signB_cons, if_neg h1, if_pos h2])
        have HR := Lib.hid hr
        have hs1 : 1 <= s.size := h0
        clear hl hb hr h1 h2
        go_enter Tryz.func242, Tryz.ntmps242
        go_wp2_with fail
        refine (H1.out _).mono ?_
        rintro e w1 ⟨rfl, rfl⟩
        go_wp2_with fail
        refine (H2.out _).mono ?_
        rintro e w1 ⟨rfl, rfl⟩
        go_wp2_with fail
        go_region
        all_goals
          go_wp2_with fail
          go_ret2
          exact ⟨⟨_, sign_ret HL.out, by rw [HL.out]; exact HR.out⟩, below_draws (Below.refl _ _) _⟩
      . have H2 := Lib.hid (λ w => pref_any s 38 false (by rw [hl, pref_cons]; exact beq_eq_false_iff_ne.2 (λ e => h2 e.symm)) w)
        have HL := Lib.hid (show signB s.data.toList = (5, s.data.toList) by rw [hl, signB_cons, if_neg h1, if_neg h2])
        clear hl hb hr h1 h2
        go_enter Tryz.func242, Tryz.ntmps242
        go_wp2_with fail
        refine (H1.out _).mono ?_
        rintro e w1 ⟨rfl, rfl⟩
        go_wp2_with fail
        refine (H2.out _).mono ?_
        rintro e w1 ⟨rfl, rfl⟩
        go_wp2_with fail
        go_ret2
        exact ⟨⟨s, sign_ret HL.out, by rw [HL.out]⟩, Below.refl _ _⟩
theorem one_end {w w1 W2 : World} {Z : Obj} {d g c : Nat} {A : Option Addr} {x : Nd} {k : Int} {t : TypeId} {x0 x1 x2 : Value} (hb2 : Below (w.heap.size + 1) (w.alloc Z) W2) (hz1 : (w.alloc Z).heap.size <= w1.heap.size) (hz2 : W2.heap.size = w1.heap.size + 1 + 1)
    (hg : W2.heap[w1.heap.size + 1]? = some (.cells #[.int .i64 x.1, .string x.2.1, .slice A x.2.2.items.length g] t (0, 0))) (hl : x.2.1.size <= 1) (hs : SlT W2 d (OwnB (w.alloc Z) w1) (.slice A x.2.2.items.length g) x.2.2)
    (b0 : W2.cell? ⟨w.heap.size, 0, none⟩ = some x0) (b1 : W2.cell? ⟨w.heap.size, 1, none⟩ = some x1) (b2 : W2.cell? ⟨w.heap.size, 2, none⟩ = some x2) :
    let W4 := ((W2.setCell ⟨w.heap.size, 0, none⟩ (.int .i64 k)).setCell ⟨w.heap.size, 1, none⟩ (.string ⟨#[]⟩)).setCell ⟨w.heap.size, 2, none⟩ (.slice (some ⟨w1.heap.size + 1, 0, none⟩) 1 c)
    (W4.cell? ⟨w.heap.size, 0, none⟩ = some (.int .i64 k) /\ W4.cell? ⟨w.heap.size, 1, none⟩ = some (.string ⟨#[]⟩) /\ W4.cell? ⟨w.heap.size, 2, none⟩ = some (.slice (some ⟨w1.heap.size + 1, 0, none⟩) 1 c)) /\
      SlT W4 (d + 1) (OwnB w W4) (.slice (some ⟨w1.heap.size + 1, 0, none⟩) 1 c) (one k x).2.2 /\ Below w.heap.size w W4 := by
  intro W4
  obtain ⟨hc, hsz, hot, hB⟩ := put3 (k := .int .i64 k) (l := .string ⟨#[]⟩) (u := .slice (some ⟨w1.heap.size + 1, 0, none⟩) 1 c) b0 b1 b2
  rw [World.size_alloc] at hz1
  have hg4 : W4.heap[w1.heap.size + 1]? = some (.cells #[.int .i64 x.1, .string x.2.1, .slice A x.2.2.items.length g] t (0, 0)) := (hot _ (by omega)).trans hg
  have hs4 : W4.heap.size = w1.heap.size + 1 + 1 := hsz.trans hz2
  refine ⟨hc, slt_one (S' := OwnB (w.alloc Z) w1) ⟨by omega, by omega⟩ ⟨_, _, hg4⟩ ⟨(cell_of_row W4 _ 0 _ _ (0, 0) hg4).trans rfl, (cell_of_row W4 _ 1 _ _ (0, 0) hg4).trans rfl, (cell_of_row W4 _ 2 _ _ (0, 0) hg4).trans rfl⟩ (by omega)
    (hs.mono (λ h hh => hot h (by have := hh.1; simp at this; omega)) (λ _ h => h)) (λ h hh => ?_), hB _ _ (((Below.refl w.heap.size w).alloc (Nat.le_refl _) Z).trans (hb2.mono (Nat.le_succ _))) (Nat.le_refl _)⟩
  have h1 := hh.1
  have h2 := hh.2
  simp at h1
  exact ⟨⟨by omega, by omega⟩, by omega⟩
def RdAt (d : Nat) : Prop := ∀ (s : ByteArray) (w : World), s.size <= 1048576 -> Calls Tryz.prog 209 #[.string s, .int .i64 d] w (RdPost d s.data.toList w)
theorem RdAt.yes {d : Nat} (h : RdAt d) {s : ByteArray} {x : Nd} {t : List UInt8} (hp : parse d s.data.toList = some (x, t)) (w : World) (hs : s.size <= 1048576) : Calls Tryz.prog 209 #[.string s, .int .i64 d] w (RdYes d x t w) :=
  (h s w hs).mono λ e w' hh => by unfold RdPost at hh; rw [hp] at hh; exact hh
theorem RdAt.no {d : Nat} (h : RdAt d) {s : ByteArray} (hp : parse d s.data.toList = none) (w : World) (hs : s.size <= 1048576) : Calls Tryz.prog 209 #[.string s, .int .i64 d] w (RdNo w) :=
  (h s w hs).mono λ e w' hh => by unfold RdPost at hh; rw [hp] at hh; exact hh
theorem readOne_yes {d : Nat} (h : RdAt d) (k : Int) (s : ByteArray) (x : Nd) (t : List UInt8) (w : World) (hp : parse d s.data.toList = some (x, t)) (hs : s.size <= 1048576) :
    Calls Tryz.prog 237 #[.int .i64 k, .string s, .int .i64 d] w (RdYes (d + 1) (one k x) t w) := by
  have HI := Lib.hid (λ w => h.yes hp w hs)
  have HL := Lib.hid (parse_spec d _ x t hp).2.2
  have HB0 := Lib.hid ((Below.refl w.heap.size w).alloc (Nat.le_refl _) (.cells #[.int .i64 0, .string ⟨#[]⟩, .slice none 0 0] 26))
  clear h hp hs
  go_enter Tryz.func237, Tryz.ntmps237
  go_wp2_with fail
  refine (HI.out _).mono ?_
  rintro e w1 ⟨u, rs, rfl, hrs, hsl, hb⟩
  have hb1 : Below (w.heap.size + 1) (w.alloc (.cells #[.int .i64 0, .string ⟨#[]⟩, .slice none 0 0] 26)) w1 := by simpa using hb
  obtain ⟨A, c, rfl⟩ := hsl.shape
  have hz := hb1.size
  rw [World.size_alloc] at hz
  obtain ⟨W2, hW2⟩ : ∃ W2, W2 = (w1.alloc (.cells #[.int .i64 x.1, .string x.2.1, .slice A x.2.2.items.length c] 26)).alloc (.cells #[.int .i64 x.1, .string x.2.1, .slice A x.2.2.items.length c] 26) := ⟨_, rfl⟩
  have hb2 : Below (w.heap.size + 1) (w.alloc (.cells #[.int .i64 0, .string ⟨#[]⟩, .slice none 0 0] 26)) W2 := by rw [hW2]; exact (hb1.alloc hz _).alloc (by simp; omega) _
  obtain ⟨hh, b0, b1, b2, f0, f1, f2⟩ := box_kept hb2
  have hel := two_new w1 (.cells #[.int .i64 x.1, .string x.2.1, .slice A x.2.2.items.length c] 26) (.cells #[.int .i64 x.1, .string x.2.1, .slice A x.2.2.items.length c] 26)
  rw [<- hW2] at hel
  have hz2 : W2.heap.size = w1.heap.size + 1 + 1 := by rw [hW2]; simp
  have hsl2 : SlT W2 d (OwnB (w.alloc (.cells #[.int .i64 0, .string ⟨#[]⟩, .slice none 0 0] 26)) w1) (.slice A x.2.2.items.length c) x.2.2 := hsl.mono (λ g hg => by rw [hW2]; exact (Below.heap_alloc _ _ g (by have := hg.2; simp; omega)).trans (Below.heap_alloc _ _ g hg.2)) (λ _ h => h)
  have HF := Lib.hid (one_end (k := k) (c := 1) hb2 hb1.size hz2 hel.2 HL.out hsl2 b0 b1 b2)
  have HRS := Lib.hid hrs
  rw [hW2] at b0 b1 b2 f0 f1 f2
  have HW2 := Lib.hid hW2
  clear hb hsl hb1 hrs hh hb2 hel hz2 hsl2 hW2
  go_wp2_with fail
  rw [<- HW2.out]
  obtain ⟨⟨c0, c1, c2⟩, hS, hB⟩ := HF.out
  exact bodyPost_ret (v := .tuple #[.agg #[.int .i64 k, .string ⟨#[]⟩, .slice (some ⟨w1.heap.size + 1, 0, none⟩) 1 1], .string rs, .bool true]) (by simp [results, Tryz.results237, go_sem, c0, c1, c2]) rfl ⟨_, rs, rfl, HRS.out, hS, hB⟩
theorem readOne_no {d : Nat} (h : RdAt d) (k : Int) (s : ByteArray) (w : World) (hp : parse d s.data.toList = none) (hs : s.size <= 1048576) :
    Calls Tryz.prog 237 #[.int .i64 k, .string s, .int .i64 d] w (RdNo w) := by
  have HI := Lib.hid (λ w => h.no hp w hs)
  clear h hp hs
  go_enter Tryz.func237, Tryz.ntmps237
  go_wp2_with fail
  refine (HI.out _).mono ?_
  rintro e w1 ⟨rfl, hb⟩
  have hb1 : Below (w.heap.size + 1) (w.alloc (.cells #[.int .i64 0, .string ⟨#[]⟩, .slice none 0 0] 26)) w1 := by simpa using hb
  have hz := hb1.size
  rw [World.size_alloc] at hz
  obtain ⟨W2, hW2⟩ : ∃ W2, W2 = w1.alloc (.cells #[.int .i64 0, .string ⟨#[]⟩, .slice none 0 0] 26) := ⟨_, rfl⟩
  have hb2 : Below (w.heap.size + 1) (w.alloc (.cells #[.int .i64 0, .string ⟨#[]⟩, .slice none 0 0] 26)) W2 := by rw [hW2]; exact hb1.alloc hz _
  obtain ⟨hh, b0, b1, b2, f0, f1, f2⟩ := box_kept hb2
  have HF := Lib.hid (put3 (k := .int .i64 0) (l := .string ⟨#[]⟩) (u := .slice none 0 0) b0 b1 b2)
  have HB := Lib.hid (((Below.refl w.heap.size w).alloc (Nat.le_refl _) (.cells #[.int .i64 0, .string ⟨#[]⟩, .slice none 0 0] 26)).trans (hb2.mono (Nat.le_succ _)))
  rw [hW2] at b0 b1 b2 f0 f1 f2
  have HW2 := Lib.hid hW2
  clear hb hb1 hh hb2 hW2
  go_wp2_with fail
  rw [<- HW2.out]
  obtain ⟨⟨c0, c1, c2⟩, _, _, hB⟩ := HF.out
  exact bodyPost_ret (v := .tuple #[.agg #[.int .i64 0, .string ⟨#[]⟩, .slice none 0 0], .string ⟨#[]⟩, .bool false]) (by simp [results, Tryz.results237, go_sem, c0, c1, c2]) rfl ⟨rfl, hB _ _ HB.out (Nat.le_refl _)⟩
def formatRx (k : Int) (l : ByteArray) (a : Fr) : List UInt8 := if validRx k l a then nodeTxt k l (texts a) else []
theorem specFormat_any (n B : Nat) (k : Int) (l : ByteArray) (u : Value) (a : Fr) (w : World) (hS : Sl w B n u a) (hB : B <= w.heap.size) (hsz : a.size <= 2097152) (hls : l.size <= 9223372036854775807) :
    Calls Tryz.prog 57 #[.agg #[.int .i64 k, .string l, u]] w λ e w' => e = .returned (.string ⟨(formatRx k l a).toArray⟩) /\ Below w.heap.size w w' := by
  have HV := Lib.hid (λ wr (hb : Below w.heap.size w wr) (hz : B <= wr.heap.size) => specValid_any n B k l u a wr (hS.mono (hb.mono hB) (Nat.le_refl _)) hz hsz hls)
  have HB0 := Lib.hid ((Below.refl w.heap.size w).alloc (Nat.le_refl _) (.cells #[.int .i64 k, .string l, u] 26))
  cases hv : validRx k l a with
  | true =>
    have HT := Lib.hid (λ wr (hb : Below w.heap.size w wr) (hz : B <= wr.heap.size) => specText_any n B k l u a wr (hS.mono (hb.mono hB) (Nat.le_refl _)) hz hsz (valid_ok hv))
    rw [hv] at HV
    have HR : Hid (formatRx k l a = nodeTxt k l (texts a)) := Lib.hid (by unfold formatRx; rw [if_pos hv])
    clear hS hv
    go_enter Tryz.func57, Tryz.ntmps57
    go_wp2_with fail
    refine (HV.out _ HB0.out (by simp; omega)).mono ?_
    rintro e w1 ⟨rfl, hb1⟩
    have hb1' : Below (w.heap.size + 1) (w.alloc (.cells #[.int .i64 k, .string l, u] 26)) w1 := by simpa using hb1
    obtain ⟨c0, c1, c2⟩ := box_cells hb1'
    have hz1 := hb1'.size
    rw [World.size_alloc] at hz1
    have HW1 := Lib.hid (HB0.out.trans (hb1'.mono (Nat.le_succ _)))
    clear hb1 hb1'
    go_wp2_with fail
    refine (HT.out _ HW1.out (by omega)).mono ?_
    rintro e w2 ⟨rfl, hb2⟩
    have HW2 := Lib.hid (HW1.out.trans (hb2.mono (by omega)))
    clear hb2
    go_wp2_with fail
    go_ret
    exact ⟨congrArg (λ s : List UInt8 => Ending.returned (.string ⟨s.toArray⟩)) HR.out.symm, HW2.out⟩
  | false =>
    rw [hv] at HV
    have HR : Hid (formatRx k l a = []) := Lib.hid (by unfold formatRx; rw [if_neg (by rw [hv]; decide)])
    clear hS hv
    go_enter Tryz.func57, Tryz.ntmps57
    go_wp2_with fail
    refine (HV.out _ HB0.out (by simp; omega)).mono ?_
    rintro e w1 ⟨rfl, hb1⟩
    have HW1 := Lib.hid (HB0.out.trans (hb1.mono (by simp)))
    clear hb1
    go_wp2_with fail
    go_ret
    exact ⟨congrArg (λ s : List UInt8 => Ending.returned (.string ⟨s.toArray⟩)) HR.out.symm, HW1.out⟩
def St (w : World) (g : Nat) (s : ByteArray) (p : Nat) (bad : Bool) : Prop := w.heap[g]? = some (.cells #[.string s, .int .i64 p, .bool bad] 190 (0, 0))
theorem St.cells {w : World} {g : Nat} {s : ByteArray} {p : Nat} {bad : Bool} (h : St w g s p bad) : w.cell? ⟨g, 0, none⟩ = some (.string s) /\ w.cell? ⟨g, 1, none⟩ = some (.int .i64 p) /\ w.cell? ⟨g, 2, none⟩ = some (.bool bad) /\ w.frozen? ⟨g, 1, none⟩ = false /\ w.frozen? ⟨g, 2, none⟩ = false :=
  ⟨(cell_of_row w g 0 _ _ (0, 0) h).trans rfl, (cell_of_row w g 1 _ _ (0, 0) h).trans rfl, (cell_of_row w g 2 _ _ (0, 0) h).trans rfl, frozen_of_row w g 1 _ _ h, frozen_of_row w g 2 _ _ h⟩
theorem St.lt {w : World} {g : Nat} {s : ByteArray} {p : Nat} {bad : Bool} (h : St w g s p bad) : g < w.heap.size := (Array.getElem?_eq_some_iff.1 h).1
theorem St.same {w w' : World} {g : Nat} {s : ByteArray} {p : Nat} {bad : Bool} (h : St w g s p bad) (hs : w'.heap[g]? = w.heap[g]?) : St w' g s p bad := hs.trans h
def TakePost (g : Nat) (s : ByteArray) (p : Nat) (bad yes : Bool) (w : World) (e : Ending) (w' : World) : Prop :=
  e = .returned (.bool yes) /\ St w' g s (if yes then p + 1 else p) bad /\ w.grownBy w' (some g) /\ w'.heap.size = w.heap.size
theorem grown_quiet (w : World) (n : Nat) (row : Option Nat) : w.grownBy (w.drewN n) row := ⟨rfl, rfl, rfl, Nat.le_refl _, λ _ _ _ => rfl⟩
theorem take_bad (c : UInt8) (g : Nat) (s : ByteArray) (p : Nat) (w : World) (h : St w g s p true) : Calls Tryz.prog 216 #[.pointer (some ⟨g, 0, none⟩), .string ⟨#[c]⟩] w (TakePost g s p true false w) := by
  obtain ⟨c0, c1, c2, f1, f2⟩ := h.cells
  have HH := Lib.hid h
  clear h
  go_enter Tryz.func216, Tryz.ntmps216
  go_wp2_with fail
  go_quiet (fail)
  go_wp2_with fail
  go_ret
  exact ⟨rfl, HH.out, grown_quiet _ _ _, rfl⟩
theorem take_end (c : UInt8) (g : Nat) (s : ByteArray) (p : Nat) (w : World) (h : St w g s p false) (hs : s.size <= 1048576) (hp : s.data.toList.drop p = []) (hps : p <= s.size) : Calls Tryz.prog 216 #[.pointer (some ⟨g, 0, none⟩), .string ⟨#[c]⟩] w (TakePost g s p false false w) := by
  obtain ⟨c0, c1, c2, f1, f2⟩ := h.cells
  have HH := Lib.hid h
  have hge : s.size <= p := by
    have := List.drop_eq_nil_iff.1 hp
    simpa using this
  clear h hp
  go_enter Tryz.func216, Tryz.ntmps216
  go_wp2_with fail
  have s1 : IntKind.i64.wrap ((p : Int) + 1) = (p : Int) + 1 := IntWalk.i64_in _ (by omega)
  have d1 : decide ((s.size : Int) < (p : Int) + 1) = true := by simp; omega
  clear hs hps hge
  go_quiet (fail)
  go_wp2_with fail
  go_ret
  exact ⟨rfl, HH.out, grown_quiet _ _ _, rfl⟩
theorem at_place {s : ByteArray} {p : Nat} {b : UInt8} {r : List UInt8} (h : s.data.toList.drop p = b :: r) : p < s.size /\ (s.extract p (p + 1)).toList = [b] /\ s.data.toList.drop (p + 1) = r := by
  have hl : p < s.data.toList.length := by
    have := congrArg List.length h
    simp at this
    simp
    omega
  refine ⟨by simpa using hl, ?_, ?_⟩
  . rw [ByteArray.toList_eq]
    simp only [ByteArray.data_extract, Array.toList_extract, List.extract_eq_take_drop, h]
    rw [show p + 1 - p = 1 by omega]
    rfl
  . have := congrArg (List.drop 1) h
    rw [List.drop_drop] at this
    simpa using this
theorem take_other (c b : UInt8) (r : List UInt8) (g : Nat) (s : ByteArray) (p : Nat) (w : World) (h : St w g s p false) (hs : s.size <= 1048576) (hp : s.data.toList.drop p = b :: r) (hb : b ≠ c) : Calls Tryz.prog 216 #[.pointer (some ⟨g, 0, none⟩), .string ⟨#[c]⟩] w (TakePost g s p false false w) := by
  obtain ⟨c0, c1, c2, f1, f2⟩ := h.cells
  have HH := Lib.hid h
  obtain ⟨hlt, he, -⟩ := at_place hp
  have hn : ((s.extract p (p + 1)).toList == [c]) = false := by
    rw [he]
    simpa using hb
  clear h hp he
  go_enter Tryz.func216, Tryz.ntmps216
  go_wp2_with fail
  have s1 : IntKind.i64.wrap ((p : Int) + 1) = (p : Int) + 1 := IntWalk.i64_in _ (by omega)
  have d1 : decide ((s.size : Int) < (p : Int) + 1) = false := by simp; omega
  have s2 : 0 <= (p : Int) + 1 := by omega
  have s3 : (p : Int) + 1 <= s.size := by omega
  have s4 : ((p : Int) + 1).toNat = p + 1 := by omega
  have s5 : (p : Int) <= (p : Int) + 1 := by omega
  clear hs hb
  go_quiet (fail)
  go_wp2_with fail
  go_ret
  exact ⟨rfl, HH.out, grown_quiet _ _ _, rfl⟩
theorem take_yes (c : UInt8) (r : List UInt8) (g : Nat) (s : ByteArray) (p : Nat) (w : World) (h : St w g s p false) (hs : s.size <= 1048576) (hp : s.data.toList.drop p = c :: r) : Calls Tryz.prog 216 #[.pointer (some ⟨g, 0, none⟩), .string ⟨#[c]⟩] w (TakePost g s p false true w) := by
  obtain ⟨c0, c1, c2, f1, f2⟩ := h.cells
  have HH := Lib.hid h
  obtain ⟨hlt, he, -⟩ := at_place hp
  have hn : ((s.extract p (p + 1)).toList == [c]) = true := by
    rw [he]
    simp
  clear h hp he
  go_enter Tryz.func216, Tryz.ntmps216
  go_wp2_with fail
  have s1 : IntKind.i64.wrap ((p : Int) + 1) = (p : Int) + 1 := IntWalk.i64_in _ (by omega)
  have d1 : decide ((s.size : Int) < (p : Int) + 1) = false := by simp; omega
  have s2 : 0 <= (p : Int) + 1 := by omega
  have s3 : (p : Int) + 1 <= s.size := by omega
  have s4 : ((p : Int) + 1).toNat = p + 1 := by omega
  have s5 : (p : Int) <= (p : Int) + 1 := by omega
  go_quiet (fail)
  clear s1 d1 s2 s3 s4 s5 hn
  go_wp2_with fail
  go_ret
  exact ⟨rfl, heap_setCell_same (w.drewN nq) g 1 _ _ (.int .i64 ((p : Int) + 1)) HH.out, ⟨rfl, rfl, rfl, by simp [World.setCell], λ k _ hk => Below.heap_setCell (w.drewN nq) ⟨g, 1, none⟩ _ k (λ e => hk (by rw [e]))⟩, by simp [World.setCell]⟩
def tk (bad : Bool) (c : UInt8) (rest : List UInt8) : Bool := !bad && (rest.head? == some c)
theorem take_any (c : UInt8) (g : Nat) (s : ByteArray) (p : Nat) (bad : Bool) (rest : List UInt8) (b : Bool) (hb : tk bad c rest = b) (w : World) (h : St w g s p bad) (hs : s.size <= 1048576) (hr : s.data.toList.drop p = rest) (hp : p <= s.size) :
    Calls Tryz.prog 216 #[.pointer (some ⟨g, 0, none⟩), .string ⟨#[c]⟩] w (TakePost g s p bad b w) := by
  subst hb
  cases bad with
  | true => exact take_bad c g s p w h
  | false =>
    cases rest with
    | nil => exact take_end c g s p w h hs hr hp
    | cons b r =>
      by_cases e : b = c
      . subst e
        rw [show tk false b (b :: r) = true by simp [tk]]
        exact take_yes b r g s p w h hs hr
      . rw [show tk false c (b :: r) = false by simp [tk, e]]
        exact take_other c b r g s p w h hs hr e
def LfYes (g : Nat) (s : ByteArray) (p : Nat) (k : Int) (l : ByteArray) (w : World) (e : Ending) (w' : World) : Prop :=
  e = .returned (.agg #[.int .i64 k, .string l, .slice none 0 0]) /\ St w' g s (p + 1) false /\ w.grownBy w' (some g)
def LfNo (g : Nat) (s : ByteArray) (p : Nat) (w : World) (e : Ending) (w' : World) : Prop :=
  e = .returned (.agg #[.int .i64 0, .string ⟨#[]⟩, .slice none 0 0]) /\ St w' g s p true /\ w.grownBy w' (some g)
theorem leaf_no (g : Nat) (s : ByteArray) (p : Nat) (bad : Bool) (rest : List UInt8) (h48 : tk bad 48 rest = false) (h49 : tk bad 49 rest = false) (h46 : tk bad 46 rest = false) (h97 : tk bad 97 rest = false) (h98 : tk bad 98 rest = false) (h99 : tk bad 99 rest = false) (w : World) (h : St w g s p bad) (hs : s.size <= 1048576) (hr : s.data.toList.drop p = rest) (hp : p <= s.size) :
    Calls Tryz.prog 217 #[.pointer (some ⟨g, 0, none⟩)] w (LfNo g s p w) := by
  have hgl := h.lt
  have hst : St (w.alloc (.cells #[.int .i64 0, .string ⟨#[]⟩, .slice none 0 0] 26)) g s p bad := (Below.heap_alloc w (.cells #[.int .i64 0, .string ⟨#[]⟩, .slice none 0 0] 26) g hgl).trans h
  have HG0 := Lib.hid (World.grownBy.refl (w.alloc (.cells #[.int .i64 0, .string ⟨#[]⟩, .slice none 0 0] 26)) (some g))
  have H48 := Lib.hid (λ wr (h : St wr g s p bad) => take_any 48 g s p bad rest false h48 wr h hs hr hp)
  have H49 := Lib.hid (λ wr (h : St wr g s p bad) => take_any 49 g s p bad rest false h49 wr h hs hr hp)
  have H46 := Lib.hid (λ wr (h : St wr g s p bad) => take_any 46 g s p bad rest false h46 wr h hs hr hp)
  have H97 := Lib.hid (λ wr (h : St wr g s p bad) => take_any 97 g s p bad rest false h97 wr h hs hr hp)
  have H98 := Lib.hid (λ wr (h : St wr g s p bad) => take_any 98 g s p bad rest false h98 wr h hs hr hp)
  have H99 := Lib.hid (λ wr (h : St wr g s p bad) => take_any 99 g s p bad rest false h99 wr h hs hr hp)
  have x0 := abc0
  have x1 := abc1
  have x2 := abc2
  clear h hs hr hp h48 h49 h46 h97 h98 h99
  go_enter Tryz.func217, Tryz.ntmps217
  go_wp2_with fail
  (with_reducible refine (H48.out _ hst).mono ?_)
  rintro e w1 ⟨rfl, hst1, hg1, -⟩
  have hst : St w1 g s p bad := hst1
  have HG1 := Lib.hid (grown_tr HG0.out hg1)
  clear hst1 hg1
  go_wp2_with fail
  (with_reducible refine (H49.out _ hst).mono ?_)
  rintro e w2 ⟨rfl, hst2, hg2, -⟩
  have hst : St w2 g s p bad := hst2
  have HG2 := Lib.hid (grown_tr HG1.out hg2)
  clear hst2 hg2
  go_wp2_with fail
  (with_reducible refine (H46.out _ hst).mono ?_)
  rintro e w3 ⟨rfl, hst3, hg3, -⟩
  have hst : St w3 g s p bad := hst3
  have HG3 := Lib.hid (grown_tr HG2.out hg3)
  clear hst3 hg3
  go_wp2_with fail
  refine wp_loop_rounds 4 ?_
  rw [rounds_succ]
  go_wp2_with fail
  (with_reducible refine (H97.out _ hst).mono ?_)
  rintro e w4 ⟨rfl, hst4, hg4, -⟩
  have hst : St w4 g s p bad := hst4
  have HG4 := Lib.hid (grown_tr HG3.out hg4)
  clear hst4 hg4
  go_wp2_with fail
  rw [rounds_succ]
  go_wp2_with fail
  (with_reducible refine (H98.out _ hst).mono ?_)
  rintro e w5 ⟨rfl, hst5, hg5, -⟩
  have hst : St w5 g s p bad := hst5
  have HG5 := Lib.hid (grown_tr HG4.out hg5)
  clear hst5 hg5
  go_wp2_with fail
  rw [rounds_succ]
  go_wp2_with fail
  (with_reducible refine (H99.out _ hst).mono ?_)
  rintro e w6 ⟨rfl, hst6, hg6, -⟩
  have hst : St w6 g s p bad := hst6
  have HG6 := Lib.hid (grown_tr HG5.out hg6)
  clear hst6 hg6
  obtain ⟨-, b0, b1, b2, f0, f1, f2⟩ := box_grown HG6.out hgl
  obtain ⟨-, -, q2, -, qf⟩ := hst.cells
  have HSTB : Hid (St (w6.setCell ⟨g, 2, none⟩ (.bool true)) g s p true) := Lib.hid (heap_setCell_same w6 g 2 _ _ (.bool true) hst)
  have HGB : Hid ((w.alloc (.cells #[.int .i64 0, .string ⟨#[]⟩, .slice none 0 0] 26)).grownBy (w6.setCell ⟨g, 2, none⟩ (.bool true)) (some g)) := Lib.hid ⟨HG6.out.os, HG6.out.tape, HG6.out.output, by simpa [World.setCell] using HG6.out.size, λ k hk hne => (Below.heap_setCell w6 ⟨g, 2, none⟩ _ k (λ e => hne (by rw [e]))).trans (HG6.out.block k hk hne)⟩
  obtain ⟨-, r0, r1, r2, e0, e1, e2⟩ := box_grown HGB.out hgl
  have HF := Lib.hid (put3 (k := .int .i64 0) (l := .string ⟨#[]⟩) (u := .slice none 0 0) r0 r1 r2)
  clear b0 b1 b2 f0 f1 f2
  have HST := Lib.hid hst
  clear hst
  go_wp2_with fail
  rw [rounds_succ]
  go_wp2_with fail
  obtain ⟨⟨c0, c1, c2⟩, hsz, hot, -⟩ := HF.out
  exact bodyPost_ret (v := .agg #[.int .i64 0, .string ⟨#[]⟩, .slice none 0 0]) (by simp [results, Tryz.results217, go_sem, c0, c1, c2]) rfl ⟨rfl, (hot g (by omega)).trans HSTB.out, grown_new (grown_tr (World.grownBy_alloc w (.cells #[.int .i64 0, .string ⟨#[]⟩, .slice none 0 0] 26) (some g)) HGB.out) hsz ⟨rfl, rfl, rfl⟩ (Nat.le_refl _) (λ k hk => hot k hk)⟩
theorem leafS_48 (g : Nat) (s : ByteArray) (p : Nat) (bad : Bool) (rest : List UInt8) (hbad : bad = false) (h48 : tk bad 48 rest = true) (w : World) (h : St w g s p bad) (hs : s.size <= 1048576) (hr : s.data.toList.drop p = rest) (hp : p <= s.size) :
    Calls Tryz.prog 217 #[.pointer (some ⟨g, 0, none⟩)] w (LfYes g s p 1 ⟨#[]⟩ w) := by
  have hgl := h.lt
  have hst : St (w.alloc (.cells #[.int .i64 0, .string ⟨#[]⟩, .slice none 0 0] 26)) g s p bad := (Below.heap_alloc w (.cells #[.int .i64 0, .string ⟨#[]⟩, .slice none 0 0] 26) g hgl).trans h
  have HG0 := Lib.hid (World.grownBy.refl (w.alloc (.cells #[.int .i64 0, .string ⟨#[]⟩, .slice none 0 0] 26)) (some g))
  have H48 := Lib.hid (λ wr (h : St wr g s p bad) => take_any 48 g s p bad rest true h48 wr h hs hr hp)
  have HBAD := Lib.hid hbad
  have x0 := abc0
  have x1 := abc1
  have x2 := abc2
  clear h hs hr hp h48 hbad
  go_enter Tryz.func217, Tryz.ntmps217
  go_wp2_with fail
  (with_reducible refine (H48.out _ hst).mono ?_)
  rintro e w1 ⟨rfl, hst1, hg1, -⟩
  have hst : St w1 g s (p + 1) bad := hst1
  have HG1 := Lib.hid (grown_tr HG0.out hg1)
  clear hst1 hg1
  obtain ⟨-, b0, b1, b2, f0, f1, f2⟩ := box_grown HG1.out hgl
  have HF := Lib.hid (put3 (k := .int .i64 1) (l := .string ⟨#[]⟩) (u := .slice none 0 0) b0 b1 b2)
  have HST := Lib.hid hst
  clear hst
  go_wp2_with fail
  obtain ⟨⟨c0, c1, c2⟩, hsz, hot, -⟩ := HF.out
  exact bodyPost_ret (v := .agg #[.int .i64 1, .string ⟨#[]⟩, .slice none 0 0]) (by simp [results, Tryz.results217, go_sem, c0, c1, c2]) rfl ⟨rfl, by rw [<- HBAD.out]; exact St.same HST.out (hot g (by omega)), grown_new (grown_tr (World.grownBy_alloc w (.cells #[.int .i64 0, .string ⟨#[]⟩, .slice none 0 0] 26) (some g)) HG1.out) hsz ⟨rfl, rfl, rfl⟩ (Nat.le_refl _) (λ k hk => hot k hk)⟩
theorem leafS_49 (g : Nat) (s : ByteArray) (p : Nat) (bad : Bool) (rest : List UInt8) (hbad : bad = false) (h48 : tk bad 48 rest = false) (h49 : tk bad 49 rest = true) (w : World) (h : St w g s p bad) (hs : s.size <= 1048576) (hr : s.data.toList.drop p = rest) (hp : p <= s.size) :
    Calls Tryz.prog 217 #[.pointer (some ⟨g, 0, none⟩)] w (LfYes g s p 2 ⟨#[]⟩ w) := by
  have hgl := h.lt
  have hst : St (w.alloc (.cells #[.int .i64 0, .string ⟨#[]⟩, .slice none 0 0] 26)) g s p bad := (Below.heap_alloc w (.cells #[.int .i64 0, .string ⟨#[]⟩, .slice none 0 0] 26) g hgl).trans h
  have HG0 := Lib.hid (World.grownBy.refl (w.alloc (.cells #[.int .i64 0, .string ⟨#[]⟩, .slice none 0 0] 26)) (some g))
  have H48 := Lib.hid (λ wr (h : St wr g s p bad) => take_any 48 g s p bad rest false h48 wr h hs hr hp)
  have H49 := Lib.hid (λ wr (h : St wr g s p bad) => take_any 49 g s p bad rest true h49 wr h hs hr hp)
  have HBAD := Lib.hid hbad
  have x0 := abc0
  have x1 := abc1
  have x2 := abc2
  clear h hs hr hp h48 h49 hbad
  go_enter Tryz.func217, Tryz.ntmps217
  go_wp2_with fail
  (with_reducible refine (H48.out _ hst).mono ?_)
  rintro e w1 ⟨rfl, hst1, hg1, -⟩
  have hst : St w1 g s p bad := hst1
  have HG1 := Lib.hid (grown_tr HG0.out hg1)
  clear hst1 hg1
  go_wp2_with fail
  (with_reducible refine (H49.out _ hst).mono ?_)
  rintro e w2 ⟨rfl, hst2, hg2, -⟩
  have hst : St w2 g s (p + 1) bad := hst2
  have HG2 := Lib.hid (grown_tr HG1.out hg2)
  clear hst2 hg2
  obtain ⟨-, b0, b1, b2, f0, f1, f2⟩ := box_grown HG2.out hgl
  have HF := Lib.hid (put3 (k := .int .i64 2) (l := .string ⟨#[]⟩) (u := .slice none 0 0) b0 b1 b2)
  have HST := Lib.hid hst
  clear hst
  go_wp2_with fail
  obtain ⟨⟨c0, c1, c2⟩, hsz, hot, -⟩ := HF.out
  exact bodyPost_ret (v := .agg #[.int .i64 2, .string ⟨#[]⟩, .slice none 0 0]) (by simp [results, Tryz.results217, go_sem, c0, c1, c2]) rfl ⟨rfl, by rw [<- HBAD.out]; exact St.same HST.out (hot g (by omega)), grown_new (grown_tr (World.grownBy_alloc w (.cells #[.int .i64 0, .string ⟨#[]⟩, .slice none 0 0] 26) (some g)) HG2.out) hsz ⟨rfl, rfl, rfl⟩ (Nat.le_refl _) (λ k hk => hot k hk)⟩
theorem leafS_46 (g : Nat) (s : ByteArray) (p : Nat) (bad : Bool) (rest : List UInt8) (hbad : bad = false) (h48 : tk bad 48 rest = false) (h49 : tk bad 49 rest = false) (h46 : tk bad 46 rest = true) (w : World) (h : St w g s p bad) (hs : s.size <= 1048576) (hr : s.data.toList.drop p = rest) (hp : p <= s.size) :
    Calls Tryz.prog 217 #[.pointer (some ⟨g, 0, none⟩)] w (LfYes g s p 4 ⟨#[]⟩ w) := by
  have hgl := h.lt
  have hst : St (w.alloc (.cells #[.int .i64 0, .string ⟨#[]⟩, .slice none 0 0] 26)) g s p bad := (Below.heap_alloc w (.cells #[.int .i64 0, .string ⟨#[]⟩, .slice none 0 0] 26) g hgl).trans h
  have HG0 := Lib.hid (World.grownBy.refl (w.alloc (.cells #[.int .i64 0, .string ⟨#[]⟩, .slice none 0 0] 26)) (some g))
  have H48 := Lib.hid (λ wr (h : St wr g s p bad) => take_any 48 g s p bad rest false h48 wr h hs hr hp)
  have H49 := Lib.hid (λ wr (h : St wr g s p bad) => take_any 49 g s p bad rest false h49 wr h hs hr hp)
  have H46 := Lib.hid (λ wr (h : St wr g s p bad) => take_any 46 g s p bad rest true h46 wr h hs hr hp)
  have HBAD := Lib.hid hbad
  have x0 := abc0
  have x1 := abc1
  have x2 := abc2
  clear h hs hr hp h48 h49 h46 hbad
  go_enter Tryz.func217, Tryz.ntmps217
  go_wp2_with fail
  (with_reducible refine (H48.out _ hst).mono ?_)
  rintro e w1 ⟨rfl, hst1, hg1, -⟩
  have hst : St w1 g s p bad := hst1
  have HG1 := Lib.hid (grown_tr HG0.out hg1)
  clear hst1 hg1
  go_wp2_with fail
  (with_reducible refine (H49.out _ hst).mono ?_)
  rintro e w2 ⟨rfl, hst2, hg2, -⟩
  have hst : St w2 g s p bad := hst2
  have HG2 := Lib.hid (grown_tr HG1.out hg2)
  clear hst2 hg2
  go_wp2_with fail
  (with_reducible refine (H46.out _ hst).mono ?_)
  rintro e w3 ⟨rfl, hst3, hg3, -⟩
  have hst : St w3 g s (p + 1) bad := hst3
  have HG3 := Lib.hid (grown_tr HG2.out hg3)
  clear hst3 hg3
  obtain ⟨-, b0, b1, b2, f0, f1, f2⟩ := box_grown HG3.out hgl
  have HF := Lib.hid (put3 (k := .int .i64 4) (l := .string ⟨#[]⟩) (u := .slice none 0 0) b0 b1 b2)
  have HST := Lib.hid hst
  clear hst
  go_wp2_with fail
  obtain ⟨⟨c0, c1, c2⟩, hsz, hot, -⟩ := HF.out
  exact bodyPost_ret (v := .agg #[.int .i64 4, .string ⟨#[]⟩, .slice none 0 0]) (by simp [results, Tryz.results217, go_sem, c0, c1, c2]) rfl ⟨rfl, by rw [<- HBAD.out]; exact St.same HST.out (hot g (by omega)), grown_new (grown_tr (World.grownBy_alloc w (.cells #[.int .i64 0, .string ⟨#[]⟩, .slice none 0 0] 26) (some g)) HG3.out) hsz ⟨rfl, rfl, rfl⟩ (Nat.le_refl _) (λ k hk => hot k hk)⟩
theorem leafS_97 (g : Nat) (s : ByteArray) (p : Nat) (bad : Bool) (rest : List UInt8) (hbad : bad = false) (h48 : tk bad 48 rest = false) (h49 : tk bad 49 rest = false) (h46 : tk bad 46 rest = false) (h97 : tk bad 97 rest = true) (w : World) (h : St w g s p bad) (hs : s.size <= 1048576) (hr : s.data.toList.drop p = rest) (hp : p <= s.size) :
    Calls Tryz.prog 217 #[.pointer (some ⟨g, 0, none⟩)] w (LfYes g s p 3 ⟨#[97]⟩ w) := by
  have hgl := h.lt
  have hst : St (w.alloc (.cells #[.int .i64 0, .string ⟨#[]⟩, .slice none 0 0] 26)) g s p bad := (Below.heap_alloc w (.cells #[.int .i64 0, .string ⟨#[]⟩, .slice none 0 0] 26) g hgl).trans h
  have HG0 := Lib.hid (World.grownBy.refl (w.alloc (.cells #[.int .i64 0, .string ⟨#[]⟩, .slice none 0 0] 26)) (some g))
  have H48 := Lib.hid (λ wr (h : St wr g s p bad) => take_any 48 g s p bad rest false h48 wr h hs hr hp)
  have H49 := Lib.hid (λ wr (h : St wr g s p bad) => take_any 49 g s p bad rest false h49 wr h hs hr hp)
  have H46 := Lib.hid (λ wr (h : St wr g s p bad) => take_any 46 g s p bad rest false h46 wr h hs hr hp)
  have H97 := Lib.hid (λ wr (h : St wr g s p bad) => take_any 97 g s p bad rest true h97 wr h hs hr hp)
  have HBAD := Lib.hid hbad
  have x0 := abc0
  have x1 := abc1
  have x2 := abc2
  clear h hs hr hp h48 h49 h46 h97 hbad
  go_enter Tryz.func217, Tryz.ntmps217
  go_wp2_with fail
  (with_reducible refine (H48.out _ hst).mono ?_)
  rintro e w1 ⟨rfl, hst1, hg1, -⟩
  have hst : St w1 g s p bad := hst1
  have HG1 := Lib.hid (grown_tr HG0.out hg1)
  clear hst1 hg1
  go_wp2_with fail
  (with_reducible refine (H49.out _ hst).mono ?_)
  rintro e w2 ⟨rfl, hst2, hg2, -⟩
  have hst : St w2 g s p bad := hst2
  have HG2 := Lib.hid (grown_tr HG1.out hg2)
  clear hst2 hg2
  go_wp2_with fail
  (with_reducible refine (H46.out _ hst).mono ?_)
  rintro e w3 ⟨rfl, hst3, hg3, -⟩
  have hst : St w3 g s p bad := hst3
  have HG3 := Lib.hid (grown_tr HG2.out hg3)
  clear hst3 hg3
  go_wp2_with fail
  refine wp_loop_rounds 4 ?_
  rw [rounds_succ]
  go_wp2_with fail
  (with_reducible refine (H97.out _ hst).mono ?_)
  rintro e w4 ⟨rfl, hst4, hg4, -⟩
  have hst : St w4 g s (p + 1) bad := hst4
  have HG4 := Lib.hid (grown_tr HG3.out hg4)
  clear hst4 hg4
  obtain ⟨-, b0, b1, b2, f0, f1, f2⟩ := box_grown HG4.out hgl
  have HF := Lib.hid (put3 (k := .int .i64 3) (l := .string ⟨#[97]⟩) (u := .slice none 0 0) b0 b1 b2)
  have HST := Lib.hid hst
  clear hst
  go_wp2_with fail
  obtain ⟨⟨c0, c1, c2⟩, hsz, hot, -⟩ := HF.out
  exact bodyPost_ret (v := .agg #[.int .i64 3, .string ⟨#[97]⟩, .slice none 0 0]) (by simp [results, Tryz.results217, go_sem, c0, c1, c2]) rfl ⟨rfl, by rw [<- HBAD.out]; exact St.same HST.out (hot g (by omega)), grown_new (grown_tr (World.grownBy_alloc w (.cells #[.int .i64 0, .string ⟨#[]⟩, .slice none 0 0] 26) (some g)) HG4.out) hsz ⟨rfl, rfl, rfl⟩ (Nat.le_refl _) (λ k hk => hot k hk)⟩
theorem leafS_98 (g : Nat) (s : ByteArray) (p : Nat) (bad : Bool) (rest : List UInt8) (hbad : bad = false) (h48 : tk bad 48 rest = false) (h49 : tk bad 49 rest = false) (h46 : tk bad 46 rest = false) (h97 : tk bad 97 rest = false) (h98 : tk bad 98 rest = true) (w : World) (h : St w g s p bad) (hs : s.size <= 1048576) (hr : s.data.toList.drop p = rest) (hp : p <= s.size) :
    Calls Tryz.prog 217 #[.pointer (some ⟨g, 0, none⟩)] w (LfYes g s p 3 ⟨#[98]⟩ w) := by
  have hgl := h.lt
  have hst : St (w.alloc (.cells #[.int .i64 0, .string ⟨#[]⟩, .slice none 0 0] 26)) g s p bad := (Below.heap_alloc w (.cells #[.int .i64 0, .string ⟨#[]⟩, .slice none 0 0] 26) g hgl).trans h
  have HG0 := Lib.hid (World.grownBy.refl (w.alloc (.cells #[.int .i64 0, .string ⟨#[]⟩, .slice none 0 0] 26)) (some g))
  have H48 := Lib.hid (λ wr (h : St wr g s p bad) => take_any 48 g s p bad rest false h48 wr h hs hr hp)
  have H49 := Lib.hid (λ wr (h : St wr g s p bad) => take_any 49 g s p bad rest false h49 wr h hs hr hp)
  have H46 := Lib.hid (λ wr (h : St wr g s p bad) => take_any 46 g s p bad rest false h46 wr h hs hr hp)
  have H97 := Lib.hid (λ wr (h : St wr g s p bad) => take_any 97 g s p bad rest false h97 wr h hs hr hp)
  have H98 := Lib.hid (λ wr (h : St wr g s p bad) => take_any 98 g s p bad rest true h98 wr h hs hr hp)
  have HBAD := Lib.hid hbad
  have x0 := abc0
  have x1 := abc1
  have x2 := abc2
  clear h hs hr hp h48 h49 h46 h97 h98 hbad
  go_enter Tryz.func217, Tryz.ntmps217
  go_wp2_with fail
  (with_reducible refine (H48.out _ hst).mono ?_)
  rintro e w1 ⟨rfl, hst1, hg1, -⟩
  have hst : St w1 g s p bad := hst1
  have HG1 := Lib.hid (grown_tr HG0.out hg1)
  clear hst1 hg1
  go_wp2_with fail
  (with_reducible refine (H49.out _ hst).mono ?_)
  rintro e w2 ⟨rfl, hst2, hg2, -⟩
  have hst : St w2 g s p bad := hst2
  have HG2 := Lib.hid (grown_tr HG1.out hg2)
  clear hst2 hg2
  go_wp2_with fail
  (with_reducible refine (H46.out _ hst).mono ?_)
  rintro e w3 ⟨rfl, hst3, hg3, -⟩
  have hst : St w3 g s p bad := hst3
  have HG3 := Lib.hid (grown_tr HG2.out hg3)
  clear hst3 hg3
  go_wp2_with fail
  refine wp_loop_rounds 4 ?_
  rw [rounds_succ]
  go_wp2_with fail
  (with_reducible refine (H97.out _ hst).mono ?_)
  rintro e w4 ⟨rfl, hst4, hg4, -⟩
  have hst : St w4 g s p bad := hst4
  have HG4 := Lib.hid (grown_tr HG3.out hg4)
  clear hst4 hg4
  go_wp2_with fail
  rw [rounds_succ]
  go_wp2_with fail
  (with_reducible refine (H98.out _ hst).mono ?_)
  rintro e w5 ⟨rfl, hst5, hg5, -⟩
  have hst : St w5 g s (p + 1) bad := hst5
  have HG5 := Lib.hid (grown_tr HG4.out hg5)
  clear hst5 hg5
  obtain ⟨-, b0, b1, b2, f0, f1, f2⟩ := box_grown HG5.out hgl
  have HF := Lib.hid (put3 (k := .int .i64 3) (l := .string ⟨#[98]⟩) (u := .slice none 0 0) b0 b1 b2)
  have HST := Lib.hid hst
  clear hst
  go_wp2_with fail
  obtain ⟨⟨c0, c1, c2⟩, hsz, hot, -⟩ := HF.out
  exact bodyPost_ret (v := .agg #[.int .i64 3, .string ⟨#[98]⟩, .slice none 0 0]) (by simp [results, Tryz.results217, go_sem, c0, c1, c2]) rfl ⟨rfl, by rw [<- HBAD.out]; exact St.same HST.out (hot g (by omega)), grown_new (grown_tr (World.grownBy_alloc w (.cells #[.int .i64 0, .string ⟨#[]⟩, .slice none 0 0] 26) (some g)) HG5.out) hsz ⟨rfl, rfl, rfl⟩ (Nat.le_refl _) (λ k hk => hot k hk)⟩
theorem leafS_99 (g : Nat) (s : ByteArray) (p : Nat) (bad : Bool) (rest : List UInt8) (hbad : bad = false) (h48 : tk bad 48 rest = false) (h49 : tk bad 49 rest = false) (h46 : tk bad 46 rest = false) (h97 : tk bad 97 rest = false) (h98 : tk bad 98 rest = false) (h99 : tk bad 99 rest = true) (w : World) (h : St w g s p bad) (hs : s.size <= 1048576) (hr : s.data.toList.drop p = rest) (hp : p <= s.size) :
    Calls Tryz.prog 217 #[.pointer (some ⟨g, 0, none⟩)] w (LfYes g s p 3 ⟨#[99]⟩ w) := by
  have hgl := h.lt
  have hst : St (w.alloc (.cells #[.int .i64 0, .string ⟨#[]⟩, .slice none 0 0] 26)) g s p bad := (Below.heap_alloc w (.cells #[.int .i64 0, .string ⟨#[]⟩, .slice none 0 0] 26) g hgl).trans h
  have HG0 := Lib.hid (World.grownBy.refl (w.alloc (.cells #[.int .i64 0, .string ⟨#[]⟩, .slice none 0 0] 26)) (some g))
  have H48 := Lib.hid (λ wr (h : St wr g s p bad) => take_any 48 g s p bad rest false h48 wr h hs hr hp)
  have H49 := Lib.hid (λ wr (h : St wr g s p bad) => take_any 49 g s p bad rest false h49 wr h hs hr hp)
  have H46 := Lib.hid (λ wr (h : St wr g s p bad) => take_any 46 g s p bad rest false h46 wr h hs hr hp)
  have H97 := Lib.hid (λ wr (h : St wr g s p bad) => take_any 97 g s p bad rest false h97 wr h hs hr hp)
  have H98 := Lib.hid (λ wr (h : St wr g s p bad) => take_any 98 g s p bad rest false h98 wr h hs hr hp)
  have H99 := Lib.hid (λ wr (h : St wr g s p bad) => take_any 99 g s p bad rest true h99 wr h hs hr hp)
  have HBAD := Lib.hid hbad
  have x0 := abc0
  have x1 := abc1
  have x2 := abc2
  clear h hs hr hp h48 h49 h46 h97 h98 h99 hbad
  go_enter Tryz.func217, Tryz.ntmps217
  go_wp2_with fail
  (with_reducible refine (H48.out _ hst).mono ?_)
  rintro e w1 ⟨rfl, hst1, hg1, -⟩
  have hst : St w1 g s p bad := hst1
  have HG1 := Lib.hid (grown_tr HG0.out hg1)
  clear hst1 hg1
  go_wp2_with fail
  (with_reducible refine (H49.out _ hst).mono ?_)
  rintro e w2 ⟨rfl, hst2, hg2, -⟩
  have hst : St w2 g s p bad := hst2
  have HG2 := Lib.hid (grown_tr HG1.out hg2)
  clear hst2 hg2
  go_wp2_with fail
  (with_reducible refine (H46.out _ hst).mono ?_)
  rintro e w3 ⟨rfl, hst3, hg3, -⟩
  have hst : St w3 g s p bad := hst3
  have HG3 := Lib.hid (grown_tr HG2.out hg3)
  clear hst3 hg3
  go_wp2_with fail
  refine wp_loop_rounds 4 ?_
  rw [rounds_succ]
  go_wp2_with fail
  (with_reducible refine (H97.out _ hst).mono ?_)
  rintro e w4 ⟨rfl, hst4, hg4, -⟩
  have hst : St w4 g s p bad := hst4
  have HG4 := Lib.hid (grown_tr HG3.out hg4)
  clear hst4 hg4
  go_wp2_with fail
  rw [rounds_succ]
  go_wp2_with fail
  (with_reducible refine (H98.out _ hst).mono ?_)
  rintro e w5 ⟨rfl, hst5, hg5, -⟩
  have hst : St w5 g s p bad := hst5
  have HG5 := Lib.hid (grown_tr HG4.out hg5)
  clear hst5 hg5
  go_wp2_with fail
  rw [rounds_succ]
  go_wp2_with fail
  (with_reducible refine (H99.out _ hst).mono ?_)
  rintro e w6 ⟨rfl, hst6, hg6, -⟩
  have hst : St w6 g s (p + 1) bad := hst6
  have HG6 := Lib.hid (grown_tr HG5.out hg6)
  clear hst6 hg6
  obtain ⟨-, b0, b1, b2, f0, f1, f2⟩ := box_grown HG6.out hgl
  have HF := Lib.hid (put3 (k := .int .i64 3) (l := .string ⟨#[99]⟩) (u := .slice none 0 0) b0 b1 b2)
  have HST := Lib.hid hst
  clear hst
  go_wp2_with fail
  obtain ⟨⟨c0, c1, c2⟩, hsz, hot, -⟩ := HF.out
  exact bodyPost_ret (v := .agg #[.int .i64 3, .string ⟨#[99]⟩, .slice none 0 0]) (by simp [results, Tryz.results217, go_sem, c0, c1, c2]) rfl ⟨rfl, by rw [<- HBAD.out]; exact St.same HST.out (hot g (by omega)), grown_new (grown_tr (World.grownBy_alloc w (.cells #[.int .i64 0, .string ⟨#[]⟩, .slice none 0 0] 26) (some g)) HG6.out) hsz ⟨rfl, rfl, rfl⟩ (Nat.le_refl _) (λ k hk => hot k hk)⟩
end Go.Proofs.YtppliiingoonlaaGreatDoor
