/- Texts of one proof. -/
import Derived.Stop.Asserts
import Derived.RowKitTokens
import Derived.LaidHandle
import Derived.Test.YtppliiingoonlaaGreatDoorxPPZPack18
set_option maxRecDepth 100000
set_option maxHeartbeats 20000000
namespace Go.Proofs.YtppliiingoonlaaGreatDoor
open Go.RowKit
def StrR (w : World) (g : Nat) (ls : List (List UInt8)) : Prop := g < w.heap.size /\ ∀ (k : Nat) (p : List UInt8), ls[k]? = some p -> w.cell? ⟨g, k, none⟩ = some (.string ⟨p.toArray⟩)
theorem StrR.kept {w w' : World} {g : Nat} {ls : List (List UInt8)} (h : StrR w g ls) (hb : Below w.heap.size w w') : StrR w' g ls :=
  ⟨Nat.lt_of_lt_of_le h.1 hb.size, λ k p hp => (hb.cell (p := ⟨g, k, none⟩) h.1).trans (h.2 k p hp)⟩
def LinPost (s : List UInt8) (w : World) (e : Ending) (w' : World) : Prop := ∃ g cp, e = .returned (.slice (some ⟨g, 0, none⟩) (linesL s).length cp) /\ StrR w' g (linesL s) /\ Below w.heap.size w w'
theorem implLines_any (s : ByteArray) (w : World) (hs : s.size <= 1048576) : Calls Tryz.prog 77 #[.string s] w (LinPost s.data.toList w) := by
  have HSP := Lib.hid (implSplit_any s 10 w hs)
  obtain ⟨ps, hps⟩ : ∃ ps, ps = spl 10 s.data.toList := ⟨_, rfl⟩
  have hn : 1 <= ps.length := by
    rw [hps]
    have := spl_ne 10 s.data.toList
    cases hq : spl 10 s.data.toList with
    | nil => exact absurd hq this
    | cons _ _ => simp
  have hn2 : ps.length <= 1048577 := by
    rw [hps]
    have := spl_length 10 s.data.toList
    rw [show s.data.toList.length = s.size by simp] at this
    omega
  have hll : linesL s.data.toList = if ps.getLastD [] = [] then ps.take (ps.length - 1) else ps := by rw [hps]; exact lines_of
  rw [<- hps] at HSP
  have HLL := Lib.hid hll
  obtain ⟨n, hN⟩ : ∃ n, ps.length = n + 1 := ⟨ps.length - 1, by omega⟩
  have hlastE : ps.getLastD [] = ps[n]'(by omega) := by
    simp only [List.getLastD_eq_getLast?, List.getLast?_eq_getElem?, show ps.length - 1 = n by omega, List.getElem?_eq_getElem (show n < ps.length by omega)]
    rfl
  clear hps hll
  by_cases hlast : ps[n]'(by omega) = []
  . have HLS := Lib.hid (show linesL s.data.toList = ps.take n by rw [HLL.out, if_pos (hlastE.trans hlast), hN, Nat.add_sub_cancel])
    have hem : (ByteArray.mk (ps[n]'(by omega)).toArray).toList = [] := by rw [hlast, ByteArray.toList_eq]
    obtain ⟨px, hpx⟩ : ∃ px : ByteArray, px = ⟨(ps[n]'(by omega)).toArray⟩ := ⟨_, rfl⟩
    rw [<- hpx] at hem
    have HPX := Lib.hid hpx
    have HN := Lib.hid hN
    clear hlast hlastE hpx
    go_enter Tryz.func77, Tryz.ntmps77
    go_wp2_with fail
    refine HSP.out.mono ?_
    rintro e w1 ⟨v0, rfl, hown, hb1⟩
    obtain ⟨g, cp, rfl, hg, hc⟩ := strRow_at hown hn
    have hcap : ps.length <= cp := by
      rcases hown.2 with ⟨e, _⟩ | ⟨g', cap, cur, e, _, _, h4, _⟩
      . cases e
      . cases e
        exact h4
    have hcn := hc n (by omega)
    rw [<- HPX.out] at hcn
    have HC := Lib.hid hc
    have HB1 := Lib.hid hb1
    clear hown hc hb1
    rw [hN]
    go_wp2_with fail
    go_ret
    refine ⟨g, cp, by rw [HLS.out, List.length_take, HN.out, Nat.min_eq_left (by omega)]; rfl, ⟨hg, λ k p hp => ?_⟩, HB1.out⟩
    rw [HLS.out] at hp
    have hk : k < n := by have := (List.getElem?_eq_some_iff.1 hp).1; rw [List.length_take] at this; omega
    rw [List.getElem?_take_of_lt hk] at hp
    rw [HC.out k (by omega), (List.getElem?_eq_some_iff.1 hp).2]
  . have HLS := Lib.hid (show linesL s.data.toList = ps by rw [HLL.out, if_neg (by rw [hlastE]; exact hlast)])
    have hem : ¬ (ByteArray.mk (ps[n]'(by omega)).toArray).toList = [] := by rw [ByteArray.toList_eq]; simpa using hlast
    obtain ⟨px, hpx⟩ : ∃ px : ByteArray, px = ⟨(ps[n]'(by omega)).toArray⟩ := ⟨_, rfl⟩
    rw [<- hpx] at hem
    have hem2 : px.toList.isEmpty = false := by simpa using hem
    have HPX := Lib.hid hpx
    have HN := Lib.hid hN
    clear hlast hlastE hpx
    go_enter Tryz.func77, Tryz.ntmps77
    go_wp2_with fail
    refine HSP.out.mono ?_
    rintro e w1 ⟨v0, rfl, hown, hb1⟩
    obtain ⟨g, cp, rfl, hg, hc⟩ := strRow_at hown hn
    have hcn := hc n (by omega)
    rw [<- HPX.out] at hcn
    have HC := Lib.hid hc
    have HB1 := Lib.hid hb1
    clear hown hc hb1
    rw [hN]
    go_wp2_with fail
    go_ret
    refine ⟨g, cp, by rw [HLS.out, HN.out]; rfl, ⟨hg, λ k p hp => ?_⟩, HB1.out⟩
    rw [HLS.out] at hp
    rw [HC.out k (List.getElem?_eq_some_iff.1 hp).1, (List.getElem?_eq_some_iff.1 hp).2]
def ReadsPost (R : List Cx × Int) (w : World) (e : Ending) (w' : World) : Prop :=
  (R.2 = -1 /\ ∃ A m, e = .returned (.tuple #[.slice A R.1.length m, .nilIface]) /\ PrT w' (OwnB w w') (.slice A R.1.length m) R.1 /\ Below w.heap.size w w') \/
  (∃ k : Nat, R = ([], (k : Int)) /\ k <= 1048577 /\ e = .returned (.tuple #[.slice none 0 0, .iface 100 (.int .i64 k)]) /\ Below w.heap.size w w')
theorem implReads_any (ls : List (List UInt8)) (g cp : Nat) (w : World) (h : StrR w g ls) (hn2 : ls.length <= 1048577) (hz : ∀ p ∈ ls, p.length <= 1048576) (hlaid : Laid5 w) :
    Calls Tryz.prog 76 #[.slice (some ⟨g, 0, none⟩) ls.length cp] w (ReadsPost (goP 0 [] ls) w) := by
  obtain ⟨r0, hr0, hrz, hrs, hrb⟩ := info_parts cxInfo
  have HS := Lib.hid (λ (V : World) (hb : Below w.heap.size w V) => h.kept hb)
  have HPC : Hid (∀ (p : List UInt8), p ∈ ls -> ∀ V : World, Below w.heap.size w V -> Calls Tryz.prog 14 #[.string ⟨p.toArray⟩] V (PcPost p V)) := Lib.hid (λ p hp V hb => implParseC_any ⟨p.toArray⟩ V (by show p.toArray.size <= 1048576; rw [List.size_toArray]; exact hz p hp) (Laid5.below hlaid hb))
  obtain ⟨R, hR⟩ : ∃ R, R = goP 0 [] ls := ⟨_, rfl⟩
  rw [<- hR]
  have HR0 := Lib.hid hR
  clear hR h hz hlaid
  go_enter Tryz.func76, Tryz.ntmps76
  go_wp2_with fail
  go_loopw [4, 11] (λ v i wr => ∃ (k : Nat) (L : List Cx) (xs : List Value), i = .int .i64 k /\ k <= ls.length /\ Hid (L.length = k /\ k <= 6 /\ R = goP k L (ls.drop k)) /\ RowC w.heap.size wr v L xs /\ Below w.heap.size w wr) (λ _ i _ => ls.length - (intOf i).toNat)
  case atStart => exact ⟨0, [], [], rfl, Nat.zero_le _, Lib.hid ⟨rfl, by omega, by rw [HR0.out]; rfl⟩, RowC.start _ _ (Nat.le_refl _), Below.refl _ _⟩
  case round =>
    obtain ⟨k, L, xs, rfl, hk, HK, hrow, hb⟩ := hrel
    obtain ⟨Av, mv, rfl⟩ := hrow.shape
    have HR := Lib.hid hrow
    have HB := Lib.hid hb
    have hzr := hb.size
    by_cases hlt : k < ls.length
    . have hx := List.getElem?_eq_getElem hlt
      have hcell := (HS.out wr hb).2 k _ hx
      have HD := Lib.hid (goP_drop hx)
      have HI := Lib.hid (HPC.out ls[k] (List.getElem_mem hlt) wr hb)
      have hk1 : (k : Int) < ls.length := by omega
      obtain ⟨pk, hpk⟩ : ∃ pk : ByteArray, pk = ⟨(ls[k]).toArray⟩ := ⟨_, rfl⟩
      rw [<- hpk] at hcell HI
      clear hpk hrow hb hx
      go_wp2_with fail
      refine HI.out.mono ?_
      rintro e w3 ⟨ok, c, hcp, hparsed⟩
      obtain ⟨A3, m3, B3, r3, rfl, ht3, hb3⟩ := hcp.shape
      have hpx := hparsed.px
      have HT3 := Lib.hid ht3
      have HB3 := Lib.hid hb3
      have hz3 := hb3.size
      have HBw := Lib.hid ((HB.out.trans (hb3.mono hzr)).alloc (by omega) (.cells #[.int .i64 c.k, .string c.l, .string c.r, .int .i64 c.xk, .string c.xl, .slice A3 c.xa.items.length m3, .slice B3 c.cs.length r3, .int .i64 c.b] 29))
      clear hcp hparsed ht3 hb3 hcell
      cases ok with
      | false =>
        have HV := Lib.hid (show R = ([], (k : Int)) by rw [HK.out.2.2, HD.out, goP_none (by rw [hpx]; rfl)])
        clear hpx
        go_wp2_with fail
        exact bodyPost_ret (v := .tuple #[.slice none 0 0, .iface 100 (.int .i64 k)]) (by simp [results, Tryz.results76, go_sem]) rfl (Or.inr ⟨k, HV.out, by omega, rfl, HBw.out⟩)
      | true =>
        by_cases h6 : k = 6
        . have HV := Lib.hid (show R = ([], (k : Int)) by rw [HK.out.2.2, HD.out, goP_full (by omega)])
          have h6i : ((k : Int) == 6) = true := by simp; omega
          clear hpx h6
          go_wp2_with fail
          exact bodyPost_ret (v := .tuple #[.slice none 0 0, .iface 100 (.int .i64 k)]) (by simp [results, Tryz.results76, go_sem]) rfl (Or.inr ⟨k, HV.out, by omega, rfl, HBw.out⟩)
        . have h6i : ((k : Int) == 6) = false := by simp; omega
          have HV := Lib.hid (show R = goP (k + 1) (L ++ [c]) (ls.drop (k + 1)) by rw [HK.out.2.2, HD.out, goP_some (c := c) (by rw [hpx]; rfl) (by have := HK.out; omega)])
          have HR3 := Lib.hid (HR.out.below HB3.out)
          have hL6 : L.length <= 6 := by have := HK.out; omega
          clear hpx
          go_wp2_with (at_builtin; refine wpList_append_own_at _ rfl (.tmp 29) (.tmp 31) 43 rfl w.heap.size 29 r0 _ 8 120 Tryz.underlying43 hr0 hrz hrs hrb rfl (by decide) _ _ _ rfl ((HR3.out.own.alloc _).alloc _) ⟨w3.heap.size + 1, 0, none⟩ 1 1 (cxA c (.slice A3 c.xa.items.length m3) (.slice B3 c.cs.length r3)).toList (by first | rfl | simp) rfl (new_eight_at (by simp) c _ _ _) (cx_one c _ _ _ _ _ _) (by unfold maxLen; omega) (by omega) (by simp; omega) ?_)
          intro v' w7 hown' hgrow hnil hat
          obtain ⟨g7, c7, hv7⟩ : ∃ g cap, v' = .slice (some ⟨g, 0, none⟩) (L.length + 1) cap := by
            rcases hown'.2 with ⟨_, h0⟩ | ⟨g, cap, _, rfl, _⟩
            . omega
            . exact ⟨g, cap, rfl⟩
          subst hv7
          have hz7 : w3.heap.size <= w7.heap.size := by have := hgrow.size; simp at this; omega
          have hkeep : ∀ q, q < w3.heap.size -> (Value.slice Av L.length mv).ownBlock ≠ some q -> w7.heap[q]? = w3.heap[q]? := λ q hq hne => by
            rw [hgrow.block q (by simp; omega) (λ e => hne e.symm), Below.heap_alloc _ _ _ (by simp; omega), Below.heap_alloc _ _ _ hq]
          have hst := HR.out.step (by omega) HB3.out HT3.out hown' hz7 hkeep (hat.imp id (λ e => ⟨_, e, by first | omega | (simp; omega)⟩))
          have HST := Lib.hid hst
          have HBN := Lib.hid ((HBw.out.alloc (by simp; omega) _).grown hgrow (by simp; omega) (λ q hq => (HR3.out.own.lt q hq).1))
          clear hown' hgrow hnil hat hkeep hst
          go_wp2_with fail
          go_roundw
          case rel => exact ⟨k + 1, L ++ [c], _, by go_num, by omega, Lib.hid ⟨by rw [List.length_append, HK.out.1]; rfl, by have := HK.out; omega, HV.out⟩, by simpa using HST.out, HBN.out⟩
          case measure => simp [intOf]; omega
    . have hd : ¬ ((k : Int) < ls.length) := by omega
      have HV := Lib.hid (show R = (L, -1) by
        rw [HK.out.2.2, List.drop_eq_nil_of_le (by omega)]
        rfl)
      have HDN := Lib.hid (HR.out.done (by have := HK.out; unfold maxI; omega))
      clear hrow hb
      go_wp2_with fail
      refine bodyPost_ret (v := .tuple #[.slice Av L.length mv, .nilIface]) (by simp [results, Tryz.results76, go_sem]) rfl ?_
      refine Or.inl ⟨by rw [HV.out], Av, mv, by rw [HV.out], ?_, HB.out⟩
      rw [HV.out]
      exact HDN.out
end Go.Proofs.YtppliiingoonlaaGreatDoor
namespace Go.Proofs.YtppliiingoonlaaGreatDoor
open Go.RowKit Go.Extern.Stop Go.Stop Go.Extern
theorem asNil_any (t : Value) (w : World) :
    Calls Tryz.prog 78 #[.nilIface, t] w λ e w' => e = .returned (.bool false) /\ w' = w := by
  go_enter Tryz.func78, Tryz.ntmps78
  go_wp2
  go_ret
  exact ⟨rfl, rfl⟩
theorem asValueOf (t : Addr) (w : World) : (ReflectliteValue.unpack (.iface 102 (.pointer (some t)))).run Tryz.prog w
    = .ok (.agg #[.pointer (some ⟨7, 102, none⟩), .pointer (some ⟨w.heap.size, 0, none⟩), .int .u64 150]) (w.alloc (.cells #[.pointer (some t)] 102)) := by kernel_rfl
theorem asType (a : Addr) (w : World) : (ReflectliteValue.methodAny (ReflectliteValue.valueError "reflectlite.Value.Type" 0) (λ t _ _ _ => ReflectliteType.toType t) #[.agg #[.pointer (some ⟨7, 102, none⟩), .pointer (some a), .int .u64 150]]).run Tryz.prog w
    = .ok (.iface 201 (.agg #[.pointer (some ⟨7, 102, none⟩)])) w := by kernel_rfl
theorem asMethodKind (h : Value) (w : World) : (Go.method 427 201 (.agg #[h]) "Kind").run Tryz.prog w = .ok (283, h) w := by kernel_rfl
theorem asKindP (w : World) : ((ReflectliteType.abiMethod λ t => (λ a : Nat => Value.int IntKind.u8 (a : Int)) <$> Rtype.kind t) #[.pointer (some ⟨7, 102, none⟩)]).run Tryz.prog w = .ok (.int .u8 22) w := by kernel_rfl
theorem asKindE (w : World) : ((ReflectliteType.abiMethod λ t => (λ a : Nat => Value.int IntKind.u8 (a : Int)) <$> Rtype.kind t) #[.pointer (some ⟨7, 100, none⟩)]).run Tryz.prog w = .ok (.int .u8 2) w := by kernel_rfl
theorem asRlm (z : Sem Value) (f : TypeId -> Addr -> Nat -> Nat -> Sem Value) (v : Value) :
    ReflectliteValue.method z f #[v] = (do match <- ReflectliteValue.parts v with | none => z | some (t, a, fl) => f t a fl (fl % 32)) := rfl
theorem asPartsP (a : Addr) (w : World) : (ReflectliteValue.parts (.agg #[.pointer (some ⟨7, 102, none⟩), .pointer (some a), .int .u64 150])).run Tryz.prog w = .ok (some (102, a, 150)) w := by kernel_rfl
theorem asIsNil (a p : Addr) (W : World) (ha : W.cell? a = some (.pointer (some p))) :
    (ReflectliteValue.method (ReflectliteValue.valueError "reflectlite.Value.IsNil" 0) ReflectliteValue.isNil #[.agg #[.pointer (some ⟨7, 102, none⟩), .pointer (some a), .int .u64 150]]).run Tryz.prog W = .ok (.bool false) W := by
  rw [asRlm]
  simp only [Sem.run_bind, asPartsP, Result.andThen]
  simp [ReflectliteValue.isNil, loadVar, isAgg, underlying, Tryz.underlying102, ha, Result.andThen]
theorem asMethodElem (h : Value) (w : World) : (Go.method 427 201 (.agg #[h]) "Elem").run Tryz.prog w = .ok (294, .agg #[h]) w := by kernel_rfl
theorem asMethodImpl (h : Value) (w : World) : (Go.method 427 201 (.agg #[h]) "Implements").run Tryz.prog w = .ok (295, .agg #[h]) w := by kernel_rfl
theorem asMethodAssign (h : Value) (w : World) : (Go.method 427 201 (.agg #[h]) "AssignableTo").run Tryz.prog w = .ok (292, .agg #[h]) w := by kernel_rfl
theorem asElemT (w : World) : (ReflectliteType.method ReflectliteType.elem #[.agg #[.pointer (some ⟨7, 102, none⟩)]]).run Tryz.prog w = .ok (.iface 201 (.agg #[.pointer (some ⟨7, 100, none⟩)])) w := by kernel_rfl
theorem asImpl (w : World) : (ReflectliteType.relation "Implements" ReflectliteType.implements_ #[.agg #[.pointer (some ⟨7, 100, none⟩)], .iface 201 (.agg #[.pointer (some ⟨7, 96, none⟩)])]).run Tryz.prog w = .ok (.bool true) w := by kernel_rfl
theorem asTypeOf (v : Value) (w : World) : (ReflectliteType.typeOf #[.iface 100 v]).run Tryz.prog w = .ok (.iface 201 (.agg #[.pointer (some ⟨7, 100, none⟩)])) w := by kernel_rfl
theorem asAssign (w : World) : (ReflectliteType.relation "AssignableTo" ReflectliteType.assignableTo #[.agg #[.pointer (some ⟨7, 100, none⟩)], .iface 201 (.agg #[.pointer (some ⟨7, 100, none⟩)])]).run Tryz.prog w = .ok (.bool true) w := by kernel_rfl
theorem asValueE (n : Int) (w : World) : (ReflectliteValue.unpack (.iface 100 (.int .i64 n))).run Tryz.prog w
    = .ok (.agg #[.pointer (some ⟨7, 100, none⟩), .pointer (some ⟨w.heap.size, 0, none⟩), .int .u64 130]) (w.alloc (.cells #[.int .i64 n] 100)) := by kernel_rfl
theorem asElemOf (w : World) : (Rtype.elem? 102).run Tryz.prog w = .ok (some 100) w := by kernel_rfl
theorem asMk (p : Addr) (w : World) : (ReflectliteValue.mk 100 p ReflectliteValue.flagAddr).run Tryz.prog w = .ok (.agg #[.pointer (some ⟨7, 100, none⟩), .pointer (some p), .int .u64 386]) w := by kernel_rfl
theorem asElemV (a p : Addr) (W : World) (ha : W.cell? a = some (.pointer (some p))) :
    (ReflectliteValue.method (ReflectliteValue.valueError "reflectlite.Value.Elem" 0) ReflectliteValue.elem #[.agg #[.pointer (some ⟨7, 102, none⟩), .pointer (some a), .int .u64 150]]).run Tryz.prog W
      = .ok (.agg #[.pointer (some ⟨7, 100, none⟩), .pointer (some p), .int .u64 386]) W := by
  rw [asRlm]
  simp only [Sem.run_bind, asPartsP, Result.andThen]
  simp [ReflectliteValue.elem, loadVar, isAgg, underlying, Tryz.underlying102, ha, Result.andThen, asElemOf, asMk]
theorem asRls (v x : Value) : ReflectliteValue.set #[v, x] = (do
    let (some (dst, a, fl), some (src, b, _)) := (<- ReflectliteValue.parts v, <- ReflectliteValue.parts x)
      | unsupported (.noEntry "extern/(internal/reflectlite.Value).Set.zeroValue")
    if fl / ReflectliteValue.flagAddr % 2 == 0 then unsupported (.noEntry "extern/(internal/reflectlite.Value).Set.unaddressable")
    let val <- loadVar src b
    if <- Rtype.directlyAssignable dst src then storeVar dst a val
    else if <- Rtype.implements dst src then
      if (<- Rtype.kind src) == 20 then
        match val with
        | .nilIface => unsupported (.noEntry "extern/reflectlite: a nil value of one interface type handed on as a value of another")
        | _ => storeVar dst a val
      else storeVar dst a (.iface src val)
    else panicString ("reflectlite.Set: value of type " ++ (<- Rtype.spelt src) ++ " is not assignable to type " ++ (<- Rtype.spelt dst))
    pure (.tuple #[])) := rfl
theorem asPartsEa (a : Addr) (w : World) : (ReflectliteValue.parts (.agg #[.pointer (some ⟨7, 100, none⟩), .pointer (some a), .int .u64 386])).run Tryz.prog w = .ok (some (100, a, 386)) w := by kernel_rfl
theorem asPartsE (a : Addr) (w : World) : (ReflectliteValue.parts (.agg #[.pointer (some ⟨7, 100, none⟩), .pointer (some a), .int .u64 130])).run Tryz.prog w = .ok (some (100, a, 130)) w := by kernel_rfl
theorem asDirect (w : World) : (Rtype.directlyAssignable 100 100).run Tryz.prog w = .ok true w := by kernel_rfl
theorem asSet (ta b : Addr) (n : Int) (old : Value) (W : World) (hb : W.cell? b = some (.int .i64 n)) (ht : W.cell? ta = some old) (hf : W.frozen? ta = false) :
    (ReflectliteValue.set #[.agg #[.pointer (some ⟨7, 100, none⟩), .pointer (some ta), .int .u64 386], .agg #[.pointer (some ⟨7, 100, none⟩), .pointer (some b), .int .u64 130]]).run Tryz.prog W
      = .ok (.tuple #[]) (W.setCell ta (.int .i64 n)) := by
  rw [asRls]
  simp only [Sem.run_bind, asPartsEa, asPartsE, Result.andThen]
  simp [ReflectliteValue.flagAddr, loadVar, isAgg, underlying, Tryz.underlying100, hb, Result.andThen, asDirect, storeVar, Value.cells, storeCells, Addr.add]
  rw [run_store Tryz.prog W ta _ _ (by rfl)]
  simp [ht, hf]
theorem asHit_any (n : Int) (t : Addr) (old : Value) (w : World) (hg : w.cell? ⟨0, 0, none⟩ = some (.iface 201 (.agg #[.pointer (some ⟨7, 96, none⟩)]))) (ht0 : w.cell? t = some old) (hf0 : w.frozen? t = false) :
    Calls Tryz.prog 78 #[.iface 100 (.int .i64 n), .iface 102 (.pointer (some t))] w λ ev w' => ev = .returned (.bool true) /\ w' = ((((w.alloc (.cells #[.pointer (some t)] 102)).alloc (.cells #[.pointer (some ⟨7, 102, none⟩), .pointer (some ⟨w.heap.size, 0, none⟩), .int .u64 150] 146)).alloc (.cells #[.pointer (some ⟨7, 102, none⟩), .pointer (some ⟨w.heap.size, 0, none⟩), .int .u64 150] 146)).alloc (.cells #[.int .i64 n] 100)).setCell t (.int .i64 n) := by
  have h6 := @run_callFunc_extern Tryz.prog 133 _ (λ args => ReflectliteValue.unpack (args.getD 0 (.tuple #[]))) Tryz.func133 (by kernel_rfl) (by kernel_rfl) (by kernel_rfl) (by kernel_rfl)
  have h7 := @run_callFunc_extern Tryz.prog 134 _ (ReflectliteValue.methodAny (ReflectliteValue.valueError "reflectlite.Value.Type" 0) (λ t _ _ _ => ReflectliteType.toType t)) Tryz.func134 (by kernel_rfl) (by kernel_rfl) (by kernel_rfl) (by kernel_rfl)
  have h8 := @run_callFunc_extern Tryz.prog 135 _ (ReflectliteValue.method (ReflectliteValue.valueError "reflectlite.Value.IsNil" 0) ReflectliteValue.isNil) Tryz.func135 (by kernel_rfl) (by kernel_rfl) (by kernel_rfl) (by kernel_rfl)
  have h27 := @run_callFunc_extern Tryz.prog 283 _ (ReflectliteType.abiMethod λ t => do pure (.int .u8 (<- Rtype.kind t))) Tryz.func283 (by kernel_rfl) (by kernel_rfl) (by kernel_rfl) (by kernel_rfl)
  have h37 := @run_callFunc_extern Tryz.prog 294 _ (ReflectliteType.method ReflectliteType.elem) Tryz.func294 (by kernel_rfl) (by kernel_rfl) (by kernel_rfl) (by kernel_rfl)
  have h38 := @run_callFunc_extern Tryz.prog 295 _ (ReflectliteType.relation "Implements" ReflectliteType.implements_) Tryz.func295 (by kernel_rfl) (by kernel_rfl) (by kernel_rfl) (by kernel_rfl)
  have h10 := @run_callFunc_extern Tryz.prog 182 _ ReflectliteType.typeOf Tryz.func182 (by kernel_rfl) (by kernel_rfl) (by kernel_rfl) (by kernel_rfl)
  have h35 := @run_callFunc_extern Tryz.prog 292 _ (ReflectliteType.relation "AssignableTo" ReflectliteType.assignableTo) Tryz.func292 (by kernel_rfl) (by kernel_rfl) (by kernel_rfl) (by kernel_rfl)
  have h11 := @run_callFunc_extern Tryz.prog 183 _ (ReflectliteValue.method (ReflectliteValue.valueError "reflectlite.Value.Elem" 0) ReflectliteValue.elem) Tryz.func183 (by kernel_rfl) (by kernel_rfl) (by kernel_rfl) (by kernel_rfl)
  have h12 := @run_callFunc_extern Tryz.prog 184 _ ReflectliteValue.set Tryz.func184 (by kernel_rfl) (by kernel_rfl) (by kernel_rfl) (by kernel_rfl)
  have tO := asTypeOf
  have mA := asMethodAssign
  have a25 := asAssign
  have v25 := asValueE
  have f6 := asValueOf
  have f7 := asType
  have mK := asMethodKind
  have mE := asMethodElem
  have mI := asMethodImpl
  have k27 := asKindP
  have k25 := asKindE
  have e27 := asElemT
  have i25 := asImpl
  have n8 := asIsNil ⟨w.heap.size, 0, none⟩ t ((w.alloc (.cells #[.pointer (some t)] 102)).alloc (.cells #[.pointer (some ⟨7, 102, none⟩), .pointer (some ⟨w.heap.size, 0, none⟩), .int .u64 150] 146)) (by simp)
  have hlt : 0 < w.heap.size := by
    rcases Nat.eq_zero_or_pos w.heap.size with h0 | h
    . simp [World.cell?, h0] at hg
    . exact h
  have hg2 : ((w.alloc (.cells #[.pointer (some t)] 102)).alloc (.cells #[.pointer (some ⟨7, 102, none⟩), .pointer (some ⟨w.heap.size, 0, none⟩), .int .u64 150] 146)).cell? ⟨0, 0, none⟩ = some (.iface 201 (.agg #[.pointer (some ⟨7, 96, none⟩)])) := by
    rw [World.cell?_alloc_lt _ _ ⟨0, 0, none⟩ (by simp), World.cell?_alloc_lt _ _ ⟨0, 0, none⟩ hlt]; exact hg
  have htl : t.block < w.heap.size := by
    rcases Nat.lt_or_ge t.block w.heap.size with h | h
    . exact h
    . simp [World.cell?, Array.getElem?_eq_none h] at ht0
  have el := asElemV ⟨w.heap.size, 0, none⟩ t (((w.alloc (.cells #[.pointer (some t)] 102)).alloc (.cells #[.pointer (some ⟨7, 102, none⟩), .pointer (some ⟨w.heap.size, 0, none⟩), .int .u64 150] 146)).alloc (.cells #[.pointer (some ⟨7, 102, none⟩), .pointer (some ⟨w.heap.size, 0, none⟩), .int .u64 150] 146)) (by rw [World.cell?_alloc_lt _ _ ⟨w.heap.size, 0, none⟩ (by simp; omega)]; simp)
  have st := asSet t ⟨w.heap.size + 1 + 1 + 1, 0, none⟩ n old ((((w.alloc (.cells #[.pointer (some t)] 102)).alloc (.cells #[.pointer (some ⟨7, 102, none⟩), .pointer (some ⟨w.heap.size, 0, none⟩), .int .u64 150] 146)).alloc (.cells #[.pointer (some ⟨7, 102, none⟩), .pointer (some ⟨w.heap.size, 0, none⟩), .int .u64 150] 146)).alloc (.cells #[.int .i64 n] 100))
    (by rw [World.cell?_alloc_at _ _ _ _ (by simp)]; rfl)
    (by rw [World.cell?_alloc_lt _ _ t (by simp; omega), World.cell?_alloc_lt _ _ t (by simp; omega), World.cell?_alloc_lt _ _ t (by simp; omega), World.cell?_alloc_lt _ _ t htl]; exact ht0)
    (by rw [World.frozen?_alloc_old _ _ t (by simp; omega), World.frozen?_alloc_old _ _ t (by simp; omega), World.frozen?_alloc_old _ _ t (by simp; omega), World.frozen?_alloc_old _ _ t (Nat.ne_of_lt htl)]; exact hf0)
  go_enter Tryz.func78, Tryz.ntmps78
  go_wp2
  refine wp_loop_rounds 1 ?_
  rw [rounds_succ]
  go_wp2
  go_ret
  exact ⟨rfl, rfl⟩
end Go.Proofs.YtppliiingoonlaaGreatDoor
namespace Go.Proofs.YtppliiingoonlaaGreatDoor
open Go.RowKit
def ErrT (w : World) : Prop := w.cell? ⟨0, 0, none⟩ = some (.iface 201 (.agg #[.pointer (some ⟨7, 96, none⟩)]))
theorem ErrT.kept {w w' : World} (h : ErrT w) (hb : Below w.heap.size w w') : ErrT w' := (hb.cell (World.block_lt_of_cell? w _ h)).trans h
theorem implParseP_any (s : ByteArray) (w : World) (hs : s.size <= 1048576) (hlaid : Laid5 w) (het : ErrT w) : Calls Tryz.prog 29 #[.string s] w (CopyPI (parseP s.data.toList).1 (parseP s.data.toList).2 w) := by
  obtain ⟨W, hW⟩ : ∃ W, W = w.alloc (.cells #[.slice none 0 0] 45) := ⟨_, rfl⟩
  have hbW : Below w.heap.size w W := by rw [hW]; exact (Below.refl _ _).alloc (Nat.le_refl _) _
  have hzW : W.heap.size = w.heap.size + 1 := by rw [hW]; simp
  have hrW : W.heap[w.heap.size]? = some (.cells #[.slice none 0 0] 45 (0, 0)) := by rw [hW]; exact heap_alloc_new w _
  have HLN := Lib.hid (implLines_any s W hs)
  have hll : (linesL s.data.toList).length <= 1048577 := by
    have := spl_length 10 s.data.toList
    rw [show s.data.toList.length = s.size by simp] at this
    rw [lines_of]
    split
    . rw [List.length_take]; omega
    . omega
  have hlz : ∀ p ∈ linesL s.data.toList, p.length <= 1048576 := λ p hp => by
    have h1 : p ∈ spl 10 s.data.toList := by
      rw [lines_of] at hp
      split at hp
      . exact List.mem_of_mem_take hp
      . exact hp
    have := spl_part 10 _ p h1
    rw [show s.data.toList.length = s.size by simp] at this
    omega
  obtain ⟨R, hR⟩ : ∃ R, R = parseP s.data.toList := ⟨_, rfl⟩
  obtain ⟨ls, hls⟩ : ∃ ls, ls = linesL s.data.toList := ⟨_, rfl⟩
  rw [<- hls] at hll hlz
  have HRD := Lib.hid (λ (g cp : Nat) (V : World) (hb : Below W.heap.size W V) (h : StrR V g ls) => (implReads_any ls g cp V h hll hlz (Laid5.below hlaid (hbW.trans (hb.mono hbW.size)))))
  have HPE : Hid (R = goP 0 [] ls) := Lib.hid (by rw [hR, hls]; rfl)
  have HLS := Lib.hid hls
  rw [<- hR]
  have HWE := Lib.hid hW
  have HBW := Lib.hid hbW
  have HZW := Lib.hid hzW
  have HRW := Lib.hid hrW
  have HET := Lib.hid (λ (V : World) (hb : Below W.heap.size W V) => (het.kept (hbW.trans (hb.mono hbW.size)) : ErrT V))
  clear hW hbW hzW hrW hR hls hlaid het hll hlz
  go_enter Tryz.func29, Tryz.ntmps29
  go_wp2_with fail
  rw [<- HWE.out]
  refine HLN.out.mono ?_
  rintro e w1 ⟨g, cp, rfl, hst, hb1⟩
  rw [<- HLS.out] at hst ⊢
  have HST := Lib.hid hst
  have HB1 := Lib.hid hb1
  clear hst hb1
  go_wp2_with fail
  refine (HRD.out g cp w1 HB1.out HST.out).mono ?_
  rw [<- HPE.out]
  rintro e w2 hpost
  rcases hpost with ⟨hm1, A, m, rfl, ht, hb2⟩ | ⟨k, hRk, hk, rfl, hb2⟩
  . have HM1 := Lib.hid hm1
    have HT := Lib.hid ht
    have HB2 := Lib.hid (HB1.out.trans (hb2.mono HB1.out.size))
    have hz12 := HB1.out.size
    obtain ⟨w3, hw3⟩ : ∃ w3, w3 = w2.alloc (.cells #[.int .i64 0] 100) := ⟨_, rfl⟩
    have hb3 : Below w2.heap.size w2 w3 := by rw [hw3]; exact (Below.refl _ _).alloc (Nat.le_refl _) _
    have HB3 := Lib.hid (HB2.out.trans (hb3.mono HB2.out.size))
    have HT3 := Lib.hid (ht.mono (w' := w3) (S' := λ h => w.heap.size <= h /\ h < w3.heap.size /\ h ≠ w.heap.size) (λ q hq => hb3.block q hq.2) (λ q hq => ⟨by have := hq.1; have := HZW.out; omega, Nat.lt_of_lt_of_le hq.2 hb3.size, by have := hq.1; have := HZW.out; omega⟩))
    have hrr := (HB3.out.block w.heap.size (by have := HZW.out; omega)).trans HRW.out
    have HW3 := Lib.hid hw3
    have HB3s := Lib.hid hb3.size
    clear hm1 ht hb2 hw3 hb3
    go_wp2_with fail
    rw [<- HW3.out]
    refine (asNil_any _ _).mono ?_
    rintro e w4 ⟨rfl, hw4⟩
    rw [hw4]
    clear hw4
    have cr := (cell_of_row w3 _ 0 _ _ (0, 0) hrr).trans (rfl : _ = some (Value.slice none 0 0))
    have fr := frozen_of_row w3 _ 0 _ _ hrr
    obtain ⟨k0, k1, k2⟩ := copyP_end (w := w) (ps := R.1) (A := A) (m := m) (Nat.le_refl _) hrr rfl HT3.out (HBW.out.trans (HB3.out.mono HBW.out.size))
    have HK1 := Lib.hid k1
    have HK2 := Lib.hid k2
    clear hrr k1 k2
    go_wp2_with fail
    exact bodyPost_ret (v := .tuple #[.agg #[.slice A R.1.length m], .int .i64 (-1)]) (by simp [results, Tryz.results29, go_sem, k0]) rfl (by rw [HM1.out]; exact ⟨_, _, rfl, HK1.out, HK2.out⟩)
  . have HRK := Lib.hid hRk
    have HB2 := Lib.hid (HB1.out.trans (hb2.mono HB1.out.size))
    obtain ⟨w3, hw3⟩ : ∃ w3, w3 = w2.alloc (.cells #[.int .i64 0] 100) := ⟨_, rfl⟩
    have hb3 : Below w2.heap.size w2 w3 := by rw [hw3]; exact (Below.refl _ _).alloc (Nat.le_refl _) _
    have HB3 := Lib.hid (HB2.out.trans (hb3.mono HB2.out.size))
    have hz3 : w3.heap.size = w2.heap.size + 1 := by rw [hw3]; simp
    have hn3 : w3.heap[w2.heap.size]? = some (.cells #[.int .i64 0] 100 (0, 0)) := by rw [hw3]; exact heap_alloc_new w2 _
    have ct := (cell_of_row w3 _ 0 _ _ (0, 0) hn3).trans (rfl : _ = some (Value.int .i64 0))
    have ft := frozen_of_row w3 _ 0 _ _ hn3
    have HAS := Lib.hid (asHit_any (k : Int) ⟨w2.heap.size, 0, none⟩ (.int .i64 0) w3 (HET.out w3 HB3.out) ct ft)
    have HN3 := Lib.hid hn3
    have HW3 := Lib.hid hw3
    have HZ3 := Lib.hid hz3
    clear hRk hb2 hw3 hb3 hz3 hn3 ct ft
    go_wp2_with fail
    rw [<- HW3.out]
    refine HAS.out.mono ?_
    rintro e w4 ⟨rfl, hw4⟩
    obtain ⟨X, hX⟩ : ∃ X, X = (((w3.alloc (.cells #[.pointer (some ⟨w2.heap.size, 0, none⟩)] 102)).alloc (.cells #[.pointer (some ⟨7, 102, none⟩), .pointer (some ⟨w3.heap.size, 0, none⟩), .int .u64 150] 146)).alloc (.cells #[.pointer (some ⟨7, 102, none⟩), .pointer (some ⟨w3.heap.size, 0, none⟩), .int .u64 150] 146)).alloc (.cells #[.int .i64 (k : Int)] 100) := ⟨_, rfl⟩
    rw [<- hX] at hw4
    have hbX : Below w3.heap.size w3 X := by rw [hX]; exact ((((Below.refl _ _).alloc (Nat.le_refl _) _).alloc (by simp) _).alloc (by simp; omega) _).alloc (by simp; omega) _
    have hX2 := (hbX.block w2.heap.size (by have := HZ3.out; omega)).trans HN3.out
    have h42 := heap_setCell_same X w2.heap.size 0 _ _ (.int .i64 (k : Int)) hX2
    rw [<- hw4] at h42
    have hzz : w.heap.size < w2.heap.size := by have := HZW.out; have := HB2.out.size; omega
    have hrr : w4.heap[w.heap.size]? = some (.cells #[.slice none 0 0] 45 (0, 0)) := by
      rw [hw4, Below.heap_setCell _ _ _ _ (by simp; omega)]
      exact (hbX.block w.heap.size (by have := HZ3.out; omega)).trans ((HB3.out.block w.heap.size (by have := HZW.out; omega)).trans HRW.out)
    have HB4 := Lib.hid (show Below w.heap.size w w4 by
      rw [hw4]
      exact (HBW.out.trans ((HB3.out.trans (hbX.mono HB3.out.size)).mono HBW.out.size)).setCell (p := ⟨w2.heap.size, 0, none⟩) (by simp; omega) _)
    have c4 := (cell_of_row w4 _ 0 _ _ (0, 0) h42).trans (by first | rfl | simp : _ = some (Value.int .i64 (k : Int)))
    have cr := (cell_of_row w4 _ 0 _ _ (0, 0) hrr).trans (rfl : _ = some (Value.slice none 0 0))
    have fr := frozen_of_row w4 _ 0 _ _ hrr
    have hrlt : w.heap.size < w4.heap.size := (Array.getElem?_eq_some_iff.1 hrr).1
    have hne : w.heap.size ≠ w2.heap.size := by omega
    have hne2 : w2.heap.size ≠ w.heap.size := by omega
    clear hX hw4 hbX hX2 h42 hrr
    go_wp2_with fail
    go_region
    all_goals
      go_wp2_with fail
      exact bodyPost_ret (v := .tuple #[.agg #[.slice none 0 0], .int .i64 k]) (by simp [results, Tryz.results29, go_sem, cr]) rfl (by rw [HRK.out]; first | exact ⟨none, 0, rfl, PrT.none _ _ _ _, HB4.out.setCell (p := ⟨w.heap.size, 0, none⟩) (Nat.le_refl _) _⟩ | exact ⟨none, 0, rfl, PrT.none _ _ _ _, (HB4.out.setCell (p := ⟨w.heap.size, 0, none⟩) (Nat.le_refl _) _).drew⟩ | exact ⟨none, 0, rfl, PrT.none _ _ _ _, HB4.out.drew.setCell (p := ⟨w.heap.size, 0, none⟩) (Nat.le_refl _) _⟩)
theorem etGlobal : Tryz.prog.globalNamed "errors.errorType" = some 0 := by kernel_rfl
theorem etType : (Tryz.prog.cutTypes.find? (·.1 == "internal/reflectlite.rtype")).map (·.2) = some 201 := by kernel_rfl
theorem etRow : ((List.range Tryz.prog.types.size).filter λ t => Tryz.prog.rowNamed t [101, 114, 114, 111, 114]) = [96] := by kernel_rfl
theorem etHandle : typeHandle Tryz.prog 96 = .pointer (some ⟨7, 96, none⟩) := by kernel_rfl
theorem laidH_parts {l : List (String × DataW Unit)} {W : World} (hf : (l.filter λ x => x.2.handleName?.isSome) = [("errors.errorType", Rows.laid_errors_errorType)]) (h : laidMetH Tryz.prog l W) :
    laidMet Tryz.prog (l.filter λ x => x.2.handleName?.isNone) W /\ handlesMet Tryz.prog [("errors.errorType", Rows.laid_errors_errorType)] W := by
  unfold laidMetH at h
  rw [hf] at h
  exact h
theorem errT_of_laid {W : World} (h : handlesMet Tryz.prog [("errors.errorType", Rows.laid_errors_errorType)] W) : ErrT W := by
  obtain ⟨name, u, ty, e1, e2, e3, e4, e5⟩ := h _ (List.mem_singleton.2 rfl)
  have en : name = [101, 114, 114, 111, 114] := (Option.some.inj e1).symm
  subst en
  obtain rfl := Option.some.inj (etType.symm.trans e2)
  have hm : ty ∈ (List.range Tryz.prog.types.size).filter λ t => Tryz.prog.rowNamed t [101, 114, 114, 111, 114] := List.mem_filter.2 ⟨List.mem_range.2 e3, e4⟩
  rw [etRow] at hm
  obtain rfl := List.mem_singleton.1 hm
  rw [etHandle] at e5
  unfold ErrT
  simpa using World.var?_cell etGlobal e5 0
noncomputable def holdE (os : Os) : World :=
  let w0 := World.holding Tryz.prog os ⟨#[], #[], []⟩
  { w0 with heap := w0.heap.modify 0 λ
      | .cells _ t frozen => .cells #[.iface 201 (.agg #[.pointer (some ⟨7, 96, none⟩)])] t frozen
      | o => o }
noncomputable def laidE (os : Os) (l : List (String × DataW Unit)) : World := (holdE os).layVars Tryz.prog l
theorem laidE_os (os : Os) (l : List (String × DataW Unit)) : (laidE os l).os = os := World.layVars_os _ _ _
theorem laidMet_laidE {os : Os} {laid : List (String × DataW Unit)} (args : Array Value) (hf : (holdE os).layFits Tryz.prog laid [] = true) (hi : (holdE os).layIfaces Tryz.prog laid (laidE os laid) = true) :
    laidMet Tryz.prog laid ((laidE os laid).forCall (λ _ _ => 0) ⟨#[], args, []⟩).memory := by
  have e1 : (laid.filter λ x => (laid.map (·.1)).contains x.1) = laid := List.filter_eq_self.2 λ x hx => List.contains_iff_mem.2 (List.mem_map.2 ⟨x, hx, rfl⟩)
  have e2 : (laid.filter λ x => !(laid.map (·.1)).contains x.1) = [] := List.filter_eq_nil_iff.2 λ x hx => by rw [List.contains_iff_mem.2 (List.mem_map.2 ⟨x, hx, rfl⟩)]; simp
  have h : laidMet Tryz.prog laid (laidE os laid) := laidMet_layVars (w0 := holdE os) (laid.map (·.1)) [] (by rw [e1]; rfl) (by rw [e1]; exact hf) (by rw [e1]; exact hi) (by rw [e2]; exact LaidIn.none)
  exact h.of_heap (by simp [World.memory, World.forCall, Input.heap])
def BoxP (w : World) (g : Nat) (v : Value) : Prop := ∃ t, w.heap[g]? = some (.cells #[v] t (0, 0))
theorem BoxP.cell {w : World} {g : Nat} {v : Value} (h : BoxP w g v) : w.cell? ⟨g, 0, none⟩ = some v := by
  obtain ⟨t, h⟩ := h
  exact (cell_of_row w g 0 _ t (0, 0) h).trans rfl
theorem BoxP.lt {w : World} {g : Nat} {v : Value} (h : BoxP w g v) : g < w.heap.size := by
  obtain ⟨t, h⟩ := h
  exact (Array.getElem?_eq_some_iff.1 h).1
theorem BoxP.kept {w w' : World} {g : Nat} {v : Value} (h : BoxP w g v) (hb : Below w.heap.size w w') : BoxP w' g v := by
  have hl := h.lt
  obtain ⟨t, h⟩ := h
  exact ⟨t, (hb.block g hl).trans h⟩
theorem boxP_new (w : World) (v : Value) (t : TypeId) : BoxP (w.alloc (.cells #[v] t)) w.heap.size v := ⟨t, heap_alloc_new w _⟩
def mkF : Nat -> Fr -> Fr
  | _, .nil => .nil
  | k, .cons _ _ a r => .cons (k : Int) ⟨(markB (k + 1)).toArray⟩ (mkF (k + 2) a) (mkF (k + 2 * (a.size + 1)) r)
def szs (L : List (Int × ByteArray × Fr)) : Nat := (L.map λ x => x.2.2.size + 1).sum
theorem szs_items : ∀ f : Fr, f.size = szs f.items
  | .nil => rfl
  | .cons k l a r => by
    have := szs_items r
    simp only [Fr.size, Fr.items, szs, List.map_cons, List.sum_cons] at this ⊢
    omega
theorem szs_step {f : Fr} {j : Nat} {k : Int} {l : ByteArray} {a : Fr} (h : f.items[j]? = some (k, l, a)) : szs (f.items.take (j + 1)) = szs (f.items.take j) + (a.size + 1) := by
  have hlt := (List.getElem?_eq_some_iff.1 h).1
  rw [List.take_succ_eq_append_getElem hlt, (List.getElem?_eq_some_iff.1 h).2]
  simp [szs]
theorem szs_take : ∀ (L : List (Int × ByteArray × Fr)) (j : Nat), szs (L.take j) <= szs L
  | _, 0 => by simp [szs]
  | [], _ + 1 => Nat.le_refl _
  | x :: r, j + 1 => by
    have := szs_take r j
    simp only [szs, List.take_succ_cons, List.map_cons, List.sum_cons] at this ⊢
    omega
theorem mk_len : ∀ (f : Fr) (k : Nat), (mkF k f).items.length = f.items.length
  | .nil, _ => rfl
  | .cons _ _ a r, k => by simp [mkF, Fr.items, mk_len r]
theorem mk_items : ∀ (f : Fr) (k j : Nat) (x : Int × ByteArray × Fr), f.items[j]? = some x -> (mkF k f).items[j]? = some (((k + 2 * szs (f.items.take j) : Nat) : Int), ⟨(markB (k + 2 * szs (f.items.take j) + 1)).toArray⟩, mkF (k + 2 * szs (f.items.take j) + 2) x.2.2)
  | .nil, _, j, x, h => by simp [Fr.items] at h
  | .cons k0 l a r, k, 0, x, h => by
    simp [Fr.items] at h
    subst h
    simp [mkF, Fr.items, szs]
  | .cons k0 l a r, k, j + 1, x, h => by
    simp only [Fr.items, List.getElem?_cons_succ] at h
    have ih := mk_items r (k + 2 * (a.size + 1)) j x h
    have e : k + 2 * szs ((Fr.cons k0 l a r).items.take (j + 1)) = k + 2 * (a.size + 1) + 2 * szs (r.items.take j) := by
      simp only [Fr.items, List.take_succ_cons, szs, List.map_cons, List.sum_cons]
      omega
    rw [e]
    simpa [mkF, Fr.items] using ih
theorem mk_get {f : Fr} {k j : Nat} {k1 : Int} {l1 : ByteArray} {a1 : Fr} (h : (mkF k f).items[j]? = some (k1, l1, a1)) : ∃ x, f.items[j]? = some x /\ k1 = ((k + 2 * szs (f.items.take j) : Nat) : Int) /\ l1 = ⟨(markB (k + 2 * szs (f.items.take j) + 1)).toArray⟩ /\ a1 = mkF (k + 2 * szs (f.items.take j) + 2) x.2.2 := by
  have hj : j < f.items.length := by have := (List.getElem?_eq_some_iff.1 h).1; rwa [mk_len] at this
  obtain ⟨x, hx⟩ : ∃ x, f.items[j]? = some x := ⟨_, List.getElem?_eq_getElem hj⟩
  rw [mk_items f k j x hx] at h
  cases h
  exact ⟨x, hx, rfl, rfl, rfl⟩
theorem markB_len (n : Nat) (h : n <= 9223372036854775807) : (markB n).length <= 22 := by
  have := Lib.itoa_length_le (n : Int) (by omega) (by omega)
  rw [Lib.itoa_nonneg] at this
  simp only [markB, List.length_cons]
  omega
structure MkRel (wr : World) (n k g o : Nat) (K : Nat -> Nat -> Prop) (f : Fr) (j : Nat) : Prop where
  plain : Plain wr g
  done : ∀ i x, i < j -> f.items[i]? = some x -> ∃ u, ElAt wr g (o + i * 3) ((k + 2 * szs (f.items.take i) : Nat) : Int) ⟨(markB (k + 2 * szs (f.items.take i) + 1)).toArray⟩ u /\ SlT wr n (K i) u (mkF (k + 2 * szs (f.items.take i) + 2) x.2.2)
  left : ∀ i x, j <= i -> f.items[i]? = some x -> ∃ u, ElAt wr g (o + i * 3) x.1 x.2.1 u /\ SlT wr n (K i) u x.2.2
theorem plain_set {w : World} {g : Nat} (h : Plain w g) (o : Nat) (v : Value) : Plain (w.setCell ⟨g, o, none⟩ v) g := by
  obtain ⟨cur, t, h⟩ := h
  exact ⟨_, _, heap_setCell_same w g o _ _ v h⟩
theorem mk_step {wr w2 : World} {n k g o j : Nat} {K : Nat -> Nat -> Prop} {f : Fr} {x : Int × ByteArray × Fr} {A : Option Addr} {c m : Nat} {s : ByteArray} (h : MkRel wr n k g o K f j) (hx : f.items[j]? = some x) (hKg : ∀ i h, K i h -> h ≠ g) (hKd : ∀ i j h, K i h -> K j h -> i = j) (hKl : ∀ i h, K i h -> h < wr.heap.size) (hgl : g < wr.heap.size)
    (hu : ElAt wr g (o + j * 3) x.1 x.2.1 (.slice A m c)) (hsu : SlT wr n (K j) (.slice A m c) x.2.2) (hb : Below (wr.setCell ⟨g, o + j * 3, none⟩ (.int .i64 ((k + 2 * szs (f.items.take j) : Nat) : Int))).heap.size (wr.setCell ⟨g, o + j * 3, none⟩ (.int .i64 ((k + 2 * szs (f.items.take j) : Nat) : Int))) w2)
    (hs : s = ⟨(markB (k + 2 * szs (f.items.take j) + 1)).toArray⟩) :
    let W3 := w2.setCell ⟨g, o + j * 3 + 1, none⟩ (.string s)
    SlT W3 n (K j) (.slice A m c) x.2.2 /\ (∀ h, K j h -> h < W3.heap.size) /\ W3.cell? ⟨g, o + j * 3 + 2, none⟩ = some (.slice A m c) /\
      ∀ w4 : World, Chg (K j) W3 w4 -> SlT w4 n (K j) (.slice A m c) (mkF (k + 2 * szs (f.items.take j) + 2) x.2.2) -> MkRel w4 n k g o K f (j + 1) /\ Chg (λ h => h = g \/ ∃ i, K i h) wr w4 := by
  intro W3
  have ne : ∀ {p q : Nat}, p ≠ q -> (⟨g, p, none⟩ : Addr) ≠ ⟨g, q, none⟩ := λ h e => by
    injection e with _ e2
    exact h e2
  have hz1 : (wr.setCell ⟨g, o + j * 3, none⟩ (.int .i64 ((k + 2 * szs (f.items.take j) : Nat) : Int))).heap.size = wr.heap.size := by simp [World.setCell]
  have hz3 : W3.heap.size = w2.heap.size := by simp [W3, World.setCell]
  have hz : wr.heap.size <= W3.heap.size := by rw [hz3, <- hz1]; exact hb.size
  have B1 : ∀ h, h < wr.heap.size -> h ≠ g -> W3.heap[h]? = wr.heap[h]? := λ h hl hg =>
    ((Below.heap_setCell _ _ _ h hg).trans (hb.block h (by rw [hz1]; exact hl))).trans (Below.heap_setCell _ _ _ h hg)
  have C1 : ∀ p, p ≠ o + j * 3 -> p ≠ o + j * 3 + 1 -> W3.cell? ⟨g, p, none⟩ = wr.cell? ⟨g, p, none⟩ := λ p h1 h2 =>
    ((World.cell?_setCell_other _ _ _ _ (ne (Ne.symm h2))).trans (hb.cell (p := ⟨g, p, none⟩) (by rw [hz1]; exact hgl))).trans (World.cell?_setCell_other _ _ _ _ (ne (Ne.symm h1)))
  have C2 : W3.cell? ⟨g, o + j * 3, none⟩ = some (.int .i64 ((k + 2 * szs (f.items.take j) : Nat) : Int)) :=
    ((World.cell?_setCell_other _ _ _ _ (ne (by omega))).trans (hb.cell (p := ⟨g, o + j * 3, none⟩) (by rw [hz1]; exact hgl))).trans (World.cell?_setCell_same _ _ _ hu.1)
  have C3 : W3.cell? ⟨g, o + j * 3 + 1, none⟩ = some (.string s) :=
    World.cell?_setCell_same _ _ _ ((hb.cell (p := ⟨g, o + j * 3 + 1, none⟩) (by rw [hz1]; exact hgl)).trans ((World.cell?_setCell_other _ _ _ _ (ne (by omega))).trans hu.2.1))
  refine ⟨hsu.mono (λ h hh => B1 h (hKl j h hh) (hKg j h hh)) (λ _ h => h), λ h hh => Nat.lt_of_lt_of_le (hKl j h hh) hz, (C1 _ (by omega) (by omega)).trans hu.2.2, λ w4 hc h4 => ?_⟩
  have hg4 : w4.heap[g]? = W3.heap[g]? := hc.block g (Nat.lt_of_lt_of_le hgl hz) (λ h => hKg j g h rfl)
  have el : ∀ {i : Nat} {k1 : Int} {l1 : ByteArray} {u : Value}, i ≠ j -> ElAt wr g (o + i * 3) k1 l1 u -> ElAt w4 g (o + i * 3) k1 l1 u := λ {i k1 l1 u} hij he => by
    have h' : ElAt W3 g (o + i * 3) k1 l1 u := ⟨(C1 _ (by omega) (by omega)).trans he.1, (C1 _ (by omega) (by omega)).trans he.2.1, (C1 _ (by omega) (by omega)).trans he.2.2⟩
    exact h'.same hg4
  have sl : ∀ {i : Nat} {u : Value} {a : Fr}, i ≠ j -> SlT wr n (K i) u a -> SlT w4 n (K i) u a := λ {i u a} hij hs =>
    hs.mono (λ h hh => (hc.block h (Nat.lt_of_lt_of_le (hKl i h hh) hz) (λ hj => hij (hKd i j h hh hj))).trans (B1 h (hKl i h hh) (hKg i h hh))) (λ _ h => h)
  refine ⟨⟨?_, ?_, ?_⟩, ?_⟩
  . have p1 : Plain W3 g := plain_set ((plain_set h.plain _ _).same (hb.block g (by rw [hz1]; exact hgl))) _ _
    exact p1.same hg4
  . intro i y hi hy
    by_cases hij : i = j
    . subst hij
      rw [hx] at hy
      cases hy
      refine ⟨_, ElAt.same (w := W3) ⟨C2, ?_, (C1 _ (by omega) (by omega)).trans hu.2.2⟩ hg4, h4⟩
      rw [C3, hs]
    . obtain ⟨u, he, hs4⟩ := h.done i y (by omega) hy
      exact ⟨u, el hij he, sl hij hs4⟩
  . intro i y hi hy
    obtain ⟨u, he, hs4⟩ := h.left i y (by omega) hy
    exact ⟨u, el (by omega) he, sl (by omega) hs4⟩
  . refine ⟨hc.os.trans hb.os, hc.tape.trans hb.tape, hc.output.trans hb.output, Nat.le_trans hz hc.size, λ h hl hn => ?_⟩
    exact (hc.block h (Nat.lt_of_lt_of_le hl hz) (λ hj => hn (.inr ⟨j, hj⟩))).trans (B1 h hl (λ e => hn (.inl e)))
theorem mk_two {wr w2 : World} {n k g o j : Nat} {K : Nat -> Nat -> Prop} {f : Fr} {x : Int × ByteArray × Fr} {u v : Value} (h : MkRel wr n k g o K f j) (hgl : g < wr.heap.size)
    (hu : ElAt wr g (o + j * 3) x.1 x.2.1 u) (hb : Below (wr.setCell ⟨g, o + j * 3, none⟩ v).heap.size (wr.setCell ⟨g, o + j * 3, none⟩ v) w2) :
    (∃ z, w2.cell? ⟨g, o + j * 3 + 1, none⟩ = some z) /\ w2.frozen? ⟨g, o + j * 3 + 1, none⟩ = false := by
  have hz1 : (wr.setCell ⟨g, o + j * 3, none⟩ v).heap.size = wr.heap.size := by simp [World.setCell]
  have ne : (⟨g, o + j * 3, none⟩ : Addr) ≠ ⟨g, o + j * 3 + 1, none⟩ := λ e => by
    injection e with _ e2
    omega
  refine ⟨⟨_, (hb.cell (p := ⟨g, o + j * 3 + 1, none⟩) (by rw [hz1]; exact hgl)).trans ((World.cell?_setCell_other _ _ _ _ ne).trans hu.2.1)⟩, ?_⟩
  obtain ⟨cur, T, hp⟩ := (plain_set h.plain (o + j * 3) v).same (hb.block g (by rw [hz1]; exact hgl))
  exact frozen_of_row w2 g _ _ _ hp
theorem markS_any (n : Nat) : ∀ (k : Nat) (S : Nat -> Prop) (v : Value) (f : Fr) (w : World), SlT w n S v f -> (∀ g, S g -> g < w.heap.size) -> 0 < k -> k + 2 * f.size <= 9223372036854775800 ->
    Calls Tryz.prog 147 #[v, .int .i64 k] w λ e w' => e = .returned (.int .i64 ((k + 2 * f.size : Nat) : Int)) /\ SlT w' n S v (mkF k f) /\ Chg S w w' := by
  induction n with
  | zero => intro k S v f w h; exact h.elim
  | succ n ih =>
    intro k S v f w ⟨hl, h⟩ hSl hk0 hkm
    rcases h with ⟨h0, A, c, rfl⟩ | ⟨g, o, c, K, rfl, hg, hp, hK, hd, hc⟩
    . obtain rfl : f = .nil := by
        cases f with
        | nil => rfl
        | cons _ _ _ _ => simp [Fr.items] at h0
      go_enter Tryz.func147, Tryz.ntmps147
      go_wp2_with fail
      go_loopw [1, 5] (λ kv i wr => kv = .int .i64 k /\ i = .int .i64 0 /\ Chg S w wr) (λ _ _ _ => 0)
      case atStart => exact ⟨rfl, rfl, Chg.refl _ _⟩
      case round =>
        obtain ⟨rfl, rfl, hch⟩ := hrel
        have HCH := Lib.hid hch
        clear hch
        go_wp2_with fail
        go_ret
        exact ⟨rfl, SlT.none _ _ _ _ _, HCH.out⟩
    . have hgl := hSl g hg
      have hsz : k + 2 * szs f.items <= 9223372036854775800 := by rw [<- szs_items]; exact hkm
      have HKL := Lib.hid (λ i h (hh : K i h) => hSl h (hK i h hh).1)
      have HKG := Lib.hid (λ i h (hh : K i h) => (hK i h hh).2)
      have HKS := Lib.hid (λ i h (hh : K i h) => (hK i h hh).1)
      have HD := Lib.hid hd
      have H0 := Lib.hid (show MkRel w n k g o K f 0 from ⟨hp, λ i x hi => absurd hi (Nat.not_lt_zero _), λ i x _ hx => (hc i x.1 x.2.1 x.2.2 hx).2⟩)
      have HLS := Lib.hid (λ j k' l a hj => (hc j k' l a hj).1)
      have HG := Lib.hid hg
      have HSZ := Lib.hid (szs_items f)
      clear hp hK hd hc hSl hg
      go_enter Tryz.func147, Tryz.ntmps147
      go_wp2_with fail
      go_loopw [1, 5] (λ kv i wr => ∃ j q : Nat, i = .int .i64 j /\ kv = .int .i64 (q : Int) /\ q = k + 2 * szs (f.items.take j) /\ j <= f.items.length /\ MkRel wr n k g o K f j /\ Chg S w wr) (λ _ i _ => f.items.length - (intOf i).toNat)
      case atStart => exact ⟨0, k, rfl, rfl, by simp [szs], Nat.zero_le _, H0.out, Chg.refl _ _⟩
      case round =>
        obtain ⟨j, q, rfl, rfl, hq, hj, hrel, hch⟩ := hrel
        have hglr : g < wr.heap.size := Nat.lt_of_lt_of_le hgl hch.size
        have HCH := Lib.hid hch
        have HR := Lib.hid hrel
        have hwz := hch.size
        clear hch hrel
        by_cases hlt : j < f.items.length
        . obtain ⟨⟨k1, l1, a1⟩, hx⟩ : ∃ x, f.items[j]? = some x := ⟨_, List.getElem?_eq_getElem hlt⟩
          obtain ⟨u, hu, hsu⟩ := HR.out.left j _ (Nat.le_refl _) hx
          obtain ⟨A, m, rfl⟩ := hsu.shape
          have hst := szs_step hx
          have hle := szs_take f.items (j + 1)
          have hq2 : k + 2 * szs (f.items.take (j + 1)) = q + 2 + 2 * a1.size := by omega
          have hq0 : 0 < q := by omega
          have hqm : q + 2 + 2 * a1.size <= 9223372036854775800 := by omega
          have HS := Lib.hid (λ w2 hb => mk_step (w2 := w2) (s := ⟨(markB (q + 1)).toArray⟩) HR.out hx (λ i h hh => HKG.out i h hh) (λ i j h hi hj => HD.out i j h hi hj) (λ i h hh => Nat.lt_of_lt_of_le (HKL.out i h hh) hwz) hglr hu hsu hb (by rw [hq]))
          have HT := Lib.hid (λ w2 hb => mk_two (w2 := w2) (v := .int .i64 ((q : Nat) : Int)) HR.out hglr hu hb)
          have hc0 := hu.1
          have hf0 : wr.frozen? ⟨g, o + j * 3, none⟩ = false := by
            obtain ⟨cur, T, hp⟩ := HR.out.plain
            exact frozen_of_row wr g _ _ _ hp
          rw [<- hq] at HS
          have HQ2 := Lib.hid hq2
          clear hq hq2
          clear hu hsu hst hle hx
          go_wp2_with fail
          go_at_call 146
          refine (markText_any (q + 1) _ (by omega) (by omega)).mono ?_
          rintro e w1 ⟨rfl, hb1⟩
          obtain ⟨⟨z, hcz⟩, hfz⟩ := HT.out w1 hb1
          obtain ⟨s3, sl3, sc3, s4⟩ := HS.out w1 hb1
          have H4 := Lib.hid s4
          have HI := Lib.hid (ih (q + 2) (K j) _ a1 _ s3 sl3 (by omega) (by omega))
          clear s4 s3 sl3
          go_wp2_with fail
          go_at_call 147
          refine HI.out.mono ?_
          rintro e w4 ⟨rfl, h4, hch4⟩
          obtain ⟨r4, c4⟩ := H4.out w4 hch4 h4
          go_wp2_with fail
          go_roundw
          case rel => exact ⟨j + 1, q + 2 + 2 * a1.size, by go_num, by go_num, HQ2.out.symm, by omega, r4, HCH.out.trans (c4.more (λ h hh => by
            rcases hh with rfl | ⟨i, hh⟩
            . exact HG.out
            . exact HKS.out i h hh))⟩
          case measure => simp [intOf]; omega
        . have hje : j = f.items.length := by omega
          have hqe : q = k + 2 * f.size := by rw [hq, hje, List.take_length, HSZ.out]
          have HQ := Lib.hid hqe
          have HJ := Lib.hid hje
          have hd : decide ((j : Int) < (f.items.length : Int)) = false := by simp; omega
          clear hq hqe hje
          go_wp2_with fail
          go_ret
          obtain rfl := HJ.out
          refine ⟨by rw [HQ.out]; rfl, ⟨by rw [mk_len]; exact hl, .inr ⟨g, o, c, K, by rw [mk_len], HG.out, HR.out.plain, λ j h hh => ⟨HKS.out j h hh, HKG.out j h hh⟩, HD.out, λ j k1 l1 a1 hj1 => ?_⟩⟩, HCH.out⟩
          obtain ⟨x, hx, rfl, rfl, rfl⟩ := mk_get hj1
          obtain ⟨u, hu, hsu⟩ := HR.out.done j x (by have := (List.getElem?_eq_some_iff.1 hx).1; exact this) hx
          have hst := szs_step hx
          have hle := szs_take f.items (j + 1)
          refine ⟨?_, u, hu, hsu⟩
          have := markB_len (k + 2 * szs (f.items.take j) + 1) (by omega)
          show (markB (k + 2 * szs (f.items.take j) + 1)).toArray.size <= _
          simp only [List.size_toArray]
          omega
end Go.Proofs.YtppliiingoonlaaGreatDoor
namespace Go.Proofs.YtppliiingoonlaaGreatDoor
open Go.RowKit
def mkX (q : Nat) (c : Cx) : Cx := ⟨(q : Int), ⟨(markB (q + 1)).toArray⟩, ⟨(markB (q + 2)).toArray⟩, ((q + 3 : Nat) : Int), ⟨(markB (q + 4)).toArray⟩, mkF (q + 5) c.xa, intMark (q + 5 + 2 * c.xa.size) c.cs.length, ((q + 5 + 2 * c.xa.size + c.cs.length : Nat) : Int)⟩
def nX (c : Cx) : Nat := 6 + 2 * c.xa.size + c.cs.length
def nT (ps : List Cx) : Nat := (ps.map nX).sum
def mkL : Nat -> List Cx -> List Cx
  | _, [] => []
  | k, c :: r => mkX k c :: mkL (k + nX c) r
theorem mkL_length : ∀ (k : Nat) (ps : List Cx), (mkL k ps).length = ps.length
  | _, [] => rfl
  | k, c :: r => by simp [mkL, mkL_length]
theorem nT_step {ps : List Cx} {j : Nat} {c : Cx} (h : ps[j]? = some c) : nT (ps.take (j + 1)) = nT (ps.take j) + nX c := by
  have hlt := (List.getElem?_eq_some_iff.1 h).1
  rw [List.take_succ_eq_append_getElem hlt, (List.getElem?_eq_some_iff.1 h).2]
  simp [nT]
theorem nT_take : ∀ (L : List Cx) (j : Nat), nT (L.take j) <= nT L
  | _, 0 => by simp [nT]
  | [], _ + 1 => Nat.le_refl _
  | x :: r, j + 1 => by
    have := nT_take r j
    simp only [nT, List.take_succ_cons, List.map_cons, List.sum_cons] at this ⊢
    omega
theorem mkL_at : ∀ (ps : List Cx) (k j : Nat) (c : Cx), ps[j]? = some c -> (mkL k ps)[j]? = some (mkX (k + nT (ps.take j)) c)
  | [], _, j, c, h => by simp at h
  | x :: r, k, 0, c, h => by
    simp at h
    subst h
    simp [mkL, nT]
  | x :: r, k, j + 1, c, h => by
    rw [List.getElem?_cons_succ] at h
    have ih := mkL_at r (k + nX x) j c h
    have e : k + nT ((x :: r).take (j + 1)) = k + nX x + nT (r.take j) := by
      simp only [List.take_succ_cons, nT, List.map_cons, List.sum_cons]
      omega
    rw [e]
    simpa [mkL] using ih
def stX (k j : Nat) (ps : List Cx) (i : Nat) (c : Cx) : Cx := if i < j then mkX (k + nT (ps.take i)) c else c
def MkW (S : Nat -> Prop) (wr : World) (g : Nat) (t : TypeId) (cur : Array Value) (X : World) : Prop := X.heap[g]? = some (.cells cur t (0, 0)) /\ Chg S wr X
section
variable {S : Nat -> Prop} {wr X : World} {g : Nat} {t : TypeId} {cur : Array Value}
theorem MkW.lt (h : MkW S wr g t cur X) : g < X.heap.size := (Array.getElem?_eq_some_iff.1 h.1).1
theorem MkW.set (h : MkW S wr g t cur X) (hg : S g) (p : Nat) (v : Value) : MkW S wr g t (cur.setIfInBounds p v) (X.setCell ⟨g, p, none⟩ v) := ⟨heap_setCell_same X g p _ _ v h.1, h.2.set hg v⟩
theorem MkW.call {X' : World} (h : MkW S wr g t cur X) (hb : Below X.heap.size X X') : MkW S wr g t cur X' := ⟨(hb.block g h.lt).trans h.1, h.2.below hb⟩
theorem MkW.chg {S' : Nat -> Prop} {X' : World} (h : MkW S wr g t cur X) (hc : Chg S' X X') (hs : ∀ q, S' q -> S q) (hg : ¬ S' g) : MkW S wr g t cur X' := ⟨(hc.block g h.lt hg).trans h.1, h.2.trans (hc.more hs)⟩
theorem MkW.more {S' : Nat -> Prop} (h : MkW S wr g t cur X) (hs : ∀ q, S q -> S' q) : MkW S' wr g t cur X := ⟨h.1, h.2.more hs⟩
theorem MkW.cell (h : MkW S wr g t cur X) (p : Nat) : X.cell? ⟨g, p, none⟩ = cur[p]? := cell_of_row X g p _ t (0, 0) h.1
theorem MkW.some (h : MkW S wr g t cur X) {p : Nat} (hp : p < cur.size) : ∃ v, X.cell? ⟨g, p, none⟩ = some v := ⟨_, (h.cell p).trans (Array.getElem?_eq_getElem hp)⟩
theorem MkW.frozen (h : MkW S wr g t cur X) (p : Nat) : X.frozen? ⟨g, p, none⟩ = false := frozen_of_row X g p _ t h.1
end
def ArC (cur : Array Value) (o : Nat) (c : Cx) (xu vc : Value) : Prop := ∀ p, p < 8 -> cur[o + p]? = (cxA c xu vc)[p]?
theorem ArC.at {w : World} {g o : Nat} {t : TypeId} {cur : Array Value} {c : Cx} {xu vc : Value} (h : ArC cur o c xu vc) (hb : w.heap[g]? = some (.cells cur t (0, 0))) : CxAt w g o c xu vc := by
  have k : ∀ p v, p < 8 -> (cxA c xu vc)[p]? = some v -> w.cell? ⟨g, o + p, none⟩ = some v := λ p v hp hv => (cell_of_row w g (o + p) _ t (0, 0) hb).trans ((h p hp).trans hv)
  exact ⟨k 0 _ (by omega) rfl, k 1 _ (by omega) rfl, k 2 _ (by omega) rfl, k 3 _ (by omega) rfl, k 4 _ (by omega) rfl, k 5 _ (by omega) rfl, k 6 _ (by omega) rfl, k 7 _ (by omega) rfl⟩
theorem ArC.of {w : World} {g o : Nat} {t : TypeId} {cur : Array Value} {c : Cx} {xu vc : Value} (h : CxAt w g o c xu vc) (hb : w.heap[g]? = some (.cells cur t (0, 0))) : ArC cur o c xu vc := λ p hp => by
  have k : ∀ p v, w.cell? ⟨g, o + p, none⟩ = some v -> cur[o + p]? = some v := λ p v hv => (cell_of_row w g (o + p) _ t (0, 0) hb).symm.trans hv
  match p, hp with
  | 0, _ => exact k 0 _ h.1
  | 1, _ => exact k 1 _ h.2.1
  | 2, _ => exact k 2 _ h.2.2.1
  | 3, _ => exact k 3 _ h.2.2.2.1
  | 4, _ => exact k 4 _ h.2.2.2.2.1
  | 5, _ => exact k 5 _ h.2.2.2.2.2.1
  | 6, _ => exact k 6 _ h.2.2.2.2.2.2.1
  | 7, _ => exact k 7 _ h.2.2.2.2.2.2.2
theorem ArC.size {cur : Array Value} {o : Nat} {c : Cx} {xu vc : Value} (h : ArC cur o c xu vc) : o + 8 <= cur.size := by
  have h7 := h 7 (by omega)
  rw [show (cxA c xu vc)[7]? = some (.int .i64 c.b) from rfl] at h7
  have := (Array.getElem?_eq_some_iff.1 h7).1
  omega
def mkCur (cur : Array Value) (o q : Nat) (c : Cx) : Array Value :=
  (((((cur.setIfInBounds o (.int .i64 (q : Int))).setIfInBounds (o + 1) (.string ⟨(markB (q + 1)).toArray⟩)).setIfInBounds (o + 2) (.string ⟨(markB (q + 2)).toArray⟩)).setIfInBounds (o + 3) (.int .i64 ((q + 3 : Nat) : Int))).setIfInBounds (o + 4) (.string ⟨(markB (q + 4)).toArray⟩)).setIfInBounds (o + 7) (.int .i64 ((q + 5 + 2 * c.xa.size + c.cs.length : Nat) : Int))
theorem mkCur_here {cur : Array Value} {o : Nat} {c : Cx} {xu vc : Value} (h : ArC cur o c xu vc) (q : Nat) : ArC (mkCur cur o q c) o (mkX q c) xu vc := λ p hp => by
  have hs := h.size
  unfold mkCur
  match p, hp with
  | 0, _ => repeat rw [sib_ne (by omega)]
            exact sib_eq (by omega)
  | 1, _ => repeat rw [sib_ne (by omega)]
            exact sib_eq (by simp only [Array.size_setIfInBounds]; omega)
  | 2, _ => repeat rw [sib_ne (by omega)]
            exact sib_eq (by simp only [Array.size_setIfInBounds]; omega)
  | 3, _ => repeat rw [sib_ne (by omega)]
            exact sib_eq (by simp only [Array.size_setIfInBounds]; omega)
  | 4, _ => repeat rw [sib_ne (by omega)]
            exact sib_eq (by simp only [Array.size_setIfInBounds]; omega)
  | 5, _ => repeat rw [sib_ne (by omega)]
            exact h 5 (by omega)
  | 6, _ => repeat rw [sib_ne (by omega)]
            exact h 6 (by omega)
  | 7, _ => repeat rw [sib_ne (by omega)]
            exact sib_eq (by simp only [Array.size_setIfInBounds]; omega)
theorem mkCur_far {cur : Array Value} {o o' : Nat} {c d : Cx} {xu vc : Value} (h : ArC cur o' d xu vc) (hd : o' + 8 <= o \/ o + 8 <= o') (q : Nat) : ArC (mkCur cur o q c) o' d xu vc := λ p hp => by
  unfold mkCur
  repeat rw [sib_ne (by omega)]
  exact h p hp
structure MkP (wr : World) (k g o : Nat) (t : TypeId) (K : Nat -> Nat -> Prop) (U V : Nat -> Value) (ps : List Cx) (j : Nat) : Prop where
  blk : ∃ cur, wr.heap[g]? = some (.cells cur t (0, 0)) /\ ∀ (i : Nat) (c : Cx), ps[i]? = some c -> ArC cur (o + i * 8) (stX k j ps i c) (U i) (V i)
  el : ∀ (i : Nat) (c : Cx), ps[i]? = some c -> CnT wr (K i) (U i) (V i) (stX k j ps i c)
theorem markX_str (q : Nat) (hq : q <= 16777216) : (⟨(markB q).toArray⟩ : ByteArray).size <= maxI := by
  have := markB_len q (by omega)
  show (markB q).toArray.size <= maxI
  rw [List.size_toArray]
  unfold maxI
  omega
theorem MkP.step {wr X : World} {k g o j q : Nat} {t : TypeId} {K : Nat -> Nat -> Prop} {U V : Nat -> Value} {ps : List Cx} {c : Cx} {cur : Array Value} (h : MkP wr k g o t K U V ps j) (hx : ps[j]? = some c) (hq : q = k + nT (ps.take j)) (hb : wr.heap[g]? = some (.cells cur t (0, 0)))
    (hKg : ∀ i h, K i h -> h ≠ g) (hKd : ∀ i j h, K i h -> K j h -> i = j) (hKl : ∀ i h, K i h -> h < wr.heap.size) (_hgl : g < wr.heap.size) (hX : MkW (λ h => h = g \/ K j h) wr g t (mkCur cur (o + j * 8) q c) X) (ht : CnT X (K j) (U j) (V j) (mkX q c)) : MkP X k g o t K U V ps (j + 1) := by
  obtain ⟨⟨cur', hb', hA⟩, hE⟩ := h
  rw [hb] at hb'
  cases hb'
  have e0 : stX k (j + 1) ps j c = mkX q c := by rw [stX, if_pos (Nat.lt_succ_self _), hq]
  have e1 : ∀ i d, i ≠ j -> stX k (j + 1) ps i d = stX k j ps i d := λ i d hi => by
    unfold stX
    by_cases h1 : i < j
    . rw [if_pos h1, if_pos (by omega)]
    . rw [if_neg h1, if_neg (by omega)]
  have e2 : stX k j ps j c = c := by rw [stX, if_neg (Nat.lt_irrefl _)]
  have hj := hA j c hx
  rw [e2] at hj
  refine ⟨⟨_, hX.1, λ i d hd => ?_⟩, λ i d hd => ?_⟩
  . by_cases hij : i = j
    . subst hij
      rw [hx] at hd
      cases hd
      rw [e0]
      exact mkCur_here hj q
    . rw [e1 i d hij]
      exact mkCur_far (hA i d hd) (by omega) q
  . by_cases hij : i = j
    . subst hij
      rw [hx] at hd
      cases hd
      rw [e0]
      exact ht
    . rw [e1 i d hij]
      exact (hE i d hd).mono (λ h hh => hX.2.block h (hKl i h hh) (λ e => e.elim (λ e => hKg i h hh e) (λ e => hij (hKd i j h hh e)))) (λ _ h => h)
end Go.Proofs.YtppliiingoonlaaGreatDoor
namespace Go.Proofs.YtppliiingoonlaaGreatDoor
open Go.RowKit
theorem markCS_any (ps : List Cx) (v : Value) (S : Nat -> Prop) (k : Nat) (w : World) (h : PrT w S v ps) (hS : ∀ g, S g -> g < w.heap.size) (hk0 : 0 < k) (hk : k + nT ps <= 16777216) (hcl : ∀ c ∈ ps, c.cs.length <= 2097152) :
    Calls Tryz.prog 93 #[v, .int .i64 k] w λ e w' => e = .returned (.int .i64 ((k + nT ps : Nat) : Int)) /\ PrT w' S v (mkL k ps) /\ Chg S w w' := by
  obtain ⟨hl, h⟩ := h
  unfold maxI at hl
  rcases h with ⟨h0, A, m, rfl⟩ | ⟨g, o, m, K, rfl, hg, hp, hK, hd, hc⟩
  . obtain rfl := List.length_eq_zero_iff.1 h0
    go_enter Tryz.func93, Tryz.ntmps93
    go_wp2_with fail
    go_loopw [1, 5] (λ kv i wr => kv = .int .i64 k /\ i = .int .i64 0 /\ Chg S w wr) (λ _ _ _ => 0)
    case atStart => exact ⟨rfl, rfl, Chg.refl _ _⟩
    case round =>
      obtain ⟨rfl, rfl, hch⟩ := hrel
      have HCH := Lib.hid hch
      clear hch
      go_wp2_with fail
      go_ret
      exact ⟨rfl, PrT.none _ _ _ _, HCH.out⟩
  . have hgl := hS g hg
    have hex : ∀ i, i < ps.length -> ∃ q : Value × Value, ∃ c, ps[i]? = some c /\ CxAt w g (o + i * 8) c q.1 q.2 /\ CnT w (K i) q.1 q.2 c := λ i hi => by
      have hx := List.getElem?_eq_getElem hi
      obtain ⟨xu, vc, ha, ht⟩ := hc i _ hx
      exact ⟨(xu, vc), _, hx, ha, ht⟩
    obtain ⟨F, hF⟩ : ∃ F : Nat -> Value × Value, ∀ i, i < ps.length -> ∃ c, ps[i]? = some c /\ CxAt w g (o + i * 8) c (F i).1 (F i).2 /\ CnT w (K i) (F i).1 (F i).2 c :=
      ⟨λ i => if hi : i < ps.length then (hex i hi).choose else (.bool true, .bool true), λ i hi => by
        simp only [hi, dite_true]
        exact (hex i hi).choose_spec⟩
    obtain ⟨U, hU⟩ : ∃ U : Nat -> Value, U = λ i => (F i).1 := ⟨_, rfl⟩
    obtain ⟨V, hV⟩ : ∃ V : Nat -> Value, V = λ i => (F i).2 := ⟨_, rfl⟩
    have hUV : ∀ (i : Nat) (c : Cx), ps[i]? = some c -> CxAt w g (o + i * 8) c (U i) (V i) /\ CnT w (K i) (U i) (V i) c := λ i c hx => by
      obtain ⟨c', hx', h1, h2⟩ := hF i (List.getElem?_eq_some_iff.1 hx).1
      rw [hx] at hx'
      cases hx'
      rw [hU, hV]
      exact ⟨h1, h2⟩
    obtain ⟨cur0, t, hcur⟩ := hp
    have HKL := Lib.hid (λ i h (hh : K i h) => hS h (hK i h hh).1)
    have HKG := Lib.hid (λ i h (hh : K i h) => (hK i h hh).2)
    have HKS := Lib.hid (λ i h (hh : K i h) => (hK i h hh).1)
    have HD := Lib.hid hd
    have st0 : ∀ i c, stX k 0 ps i c = c := λ i c => if_neg (Nat.not_lt_zero i)
    have H0 := Lib.hid (show MkP w k g o t K U V ps 0 from ⟨⟨cur0, hcur, λ i c hx => by rw [st0]; exact ArC.of (hUV i c hx).1 hcur⟩, λ i c hx => by rw [st0]; exact (hUV i c hx).2⟩)
    have HG := Lib.hid hg
    have HN := Lib.hid hk
    clear hcur hK hd hc hex hF hUV hU hV hg hk hS
    go_enter Tryz.func93, Tryz.ntmps93
    go_wp2_with fail
    go_loopw [1, 5] (λ kv i wr => ∃ j q : Nat, i = .int .i64 j /\ kv = .int .i64 (q : Int) /\ Hid (q = k + nT (ps.take j)) /\ j <= ps.length /\ MkP wr k g o t K U V ps j /\ Chg S w wr) (λ _ i _ => ps.length - (intOf i).toNat)
    case atStart => exact ⟨0, k, rfl, rfl, Lib.hid (by simp [nT]), Nat.zero_le _, H0.out, Chg.refl _ _⟩
    case round =>
      obtain ⟨j, q, rfl, rfl, HQ, hj, hrel, hch⟩ := hrel
      have hglr : g < wr.heap.size := Nat.lt_of_lt_of_le hgl hch.size
      have HCH := Lib.hid hch
      have HR := Lib.hid hrel
      have hwz := hch.size
      clear hch hrel
      by_cases hlt : j < ps.length
      . obtain ⟨c, hx⟩ : ∃ c, ps[j]? = some c := ⟨_, List.getElem?_eq_getElem hlt⟩
        have hcl' := hcl c (List.mem_of_getElem? hx)
        have hst := nT_step hx
        have hle := nT_take ps (j + 1)
        have hqm : q + nX c <= 16777216 := by have := HQ.out; have := HN.out; omega
        have hq0 : 0 < q := by have := HQ.out; omega
        have hqe : nX c = 6 + 2 * c.xa.size + c.cs.length := rfl
        obtain ⟨cur, hcur, hA⟩ := HR.out.blk
        have e2 : stX k j ps j c = c := by rw [stX, if_neg (Nat.lt_irrefl _)]
        have hAj := hA j c hx
        have hEj := HR.out.el j c hx
        rw [e2] at hAj hEj
        have hsz := hAj.size
        have HCU := Lib.hid hcur
        have HX := Lib.hid hx
        obtain ⟨Au, mu, Bu, ru, hu, hv⟩ := hEj.shape
        rw [hu, hv] at hAj
        obtain ⟨hlc, n, SX, SC, hsx, hsc, hXS, hCS⟩ := hEj
        rw [hu] at hsx
        rw [hv] at hsc
        have HQ2 := Lib.hid (show q + 6 + 2 * c.xa.size + c.cs.length = k + nT (ps.take (j + 1)) by have := HQ.out; omega)
        have hlt' : (j : Int) < ps.length := by omega
        have hj0 : (0 : Int) <= j := by omega
        -- the worlds in turn
        have M0 : MkW (λ h => h = g) wr g t cur wr := ⟨hcur, Chg.refl _ _⟩
        obtain ⟨x0, c0⟩ := M0.some (p := o + j * 8) (by omega)
        have f0 := M0.frozen (o + j * 8)
        have M1 := Lib.hid (M0.set rfl (o + j * 8) (.int .i64 (q : Int)))
        clear hx hst hle M0 hA hcur
        go_wp2_with fail
        go_at_call 146
        refine (markText_any (q + 1) _ (by omega) (by omega)).mono ?_
        rintro e w1 ⟨rfl, hb1⟩
        have N1 := M1.out.call hb1
        obtain ⟨x1, c1⟩ := N1.some (p := o + j * 8 + 1) (by simp only [Array.size_setIfInBounds]; omega)
        have f1 := N1.frozen (o + j * 8 + 1)
        have M2 := Lib.hid (N1.set rfl (o + j * 8 + 1) (.string ⟨(markB (q + 1)).toArray⟩))
        clear N1 hb1 c0 f0
        go_wp2_with fail
        go_at_call 146
        refine (markText_any (q + 2) _ (by omega) (by omega)).mono ?_
        rintro e w2 ⟨rfl, hb2⟩
        have N2 := M2.out.call hb2
        obtain ⟨x2, c2⟩ := N2.some (p := o + j * 8 + 2) (by simp only [Array.size_setIfInBounds]; omega)
        have f2 := N2.frozen (o + j * 8 + 2)
        have N3 := N2.set rfl (o + j * 8 + 2) (.string ⟨(markB (q + 2)).toArray⟩)
        obtain ⟨x3, c3⟩ := N3.some (p := o + j * 8 + 3) (by simp only [Array.size_setIfInBounds]; omega)
        have f3 := N3.frozen (o + j * 8 + 3)
        have M3 := Lib.hid (N3.set rfl (o + j * 8 + 3) (.int .i64 ((q + 3 : Nat) : Int)))
        clear N2 N3 hb2 c1 f1
        go_wp2_with fail
        go_at_call 146
        refine (markText_any (q + 4) _ (by omega) (by omega)).mono ?_
        rintro e w3 ⟨rfl, hb3⟩
        have N4 := M3.out.call hb3
        obtain ⟨x4, c4⟩ := N4.some (p := o + j * 8 + 3 + 1) (by simp only [Array.size_setIfInBounds]; omega)
        have f4 := N4.frozen (o + j * 8 + 3 + 1)
        have N5 := N4.set rfl (o + j * 8 + 3 + 1) (.string ⟨(markB (q + 4)).toArray⟩)
        have M4 := Lib.hid N5
        obtain ⟨X4, hX4⟩ : ∃ X4, X4 = w3.setCell ⟨g, o + j * 8 + 3 + 1, none⟩ (.string ⟨(markB (q + 4)).toArray⟩) := ⟨_, rfl⟩
        have c5 := N5.cell (o + j * 8 + 3 + 2)
        rw [sib_ne (by omega), sib_ne (by omega), sib_ne (by omega), sib_ne (by omega), sib_ne (by omega), show o + j * 8 + 3 + 2 = o + j * 8 + 5 by omega, hAj 5 (by omega), show (cxA c (.slice Au c.xa.items.length mu) (.slice Bu c.cs.length ru))[5]? = some (.slice Au c.xa.items.length mu) from rfl] at c5
        rw [<- hX4] at N5 c5 M4
        have hold : ∀ h, h < wr.heap.size -> h ≠ g -> X4.heap[h]? = wr.heap[h]? := λ h h1 h2 => N5.2.block h h1 h2
        have hz4 : wr.heap.size <= X4.heap.size := N5.2.size
        have sx4 : SlT X4 n SX (.slice Au c.xa.items.length mu) c.xa := hsx.mono (λ h hh => hold h (Nat.lt_of_lt_of_le (HKL.out j h (hXS h hh).1) hwz) (HKG.out j h (hXS h hh).1)) (λ _ h => h)
        have sc4 : RowO X4 SC (.slice Bu c.cs.length ru) (ints c.cs) := hsc.mono (λ h hh => hold h (Nat.lt_of_lt_of_le (HKL.out j h (hCS h hh)) hwz) (HKG.out j h (hCS h hh))) (λ _ h => h)
        have lx4 : ∀ h, K j h -> h < X4.heap.size := λ h hh => Nat.lt_of_lt_of_le (Nat.lt_of_lt_of_le (HKL.out j h hh) hwz) hz4
        have HMS := Lib.hid (markS_any n (q + 5) SX (.slice Au c.xa.items.length mu) c.xa X4 sx4 (λ h hh => lx4 h (hXS h hh).1) (by omega) (by omega))
        have HX4 := Lib.hid hX4
        rw [hX4] at c5
        clear hX4 N4 N5 hb3 c2 f2 c3 f3 sx4 hold
        go_wp2_with fail
        go_at_call 147
        rw [<- HX4.out]
        refine HMS.out.mono ?_
        rintro e w5 ⟨rfl, sx5, hch5⟩
        have N6 := (M4.out.more (S' := λ h => h = g \/ K j h) (λ h hh => Or.inl hh)).chg hch5 (λ h hh => Or.inr (hXS h hh).1) (λ hh => HKG.out j g (hXS g hh).1 rfl)
        have c6 := N6.cell (o + j * 8 + 6)
        rw [sib_ne (by omega), sib_ne (by omega), sib_ne (by omega), sib_ne (by omega), sib_ne (by omega), hAj 6 (by omega), show (cxA c (.slice Au c.xa.items.length mu) (.slice Bu c.cs.length ru))[6]? = some (.slice Bu c.cs.length ru) from rfl] at c6
        have sc5 := sc4.mono (w' := w5) (S' := SC) (λ h hh => hch5.block h (lx4 h (hCS h hh)) (λ e => (hXS h e).2 hh)) (λ _ h => h)
        have HMI := Lib.hid (markIntS_any (q + 5 + 2 * c.xa.size) (.slice Bu c.cs.length ru) c.cs SC w5 sc5 (by omega) (by omega))
        have M6 := Lib.hid N6
        have SX5 := Lib.hid sx5
        have HZ5 := Lib.hid hch5.size
        clear N6 sx5 hch5 sc5 sc4 c4 f4 c5
        go_wp2_with fail
        go_at_call 148
        refine HMI.out.mono ?_
        rintro e w6 ⟨rfl, sc6, hch6, hz6⟩
        have N7 := M6.out.chg hch6 (λ h hh => Or.inr (hCS h hh)) (λ hh => HKG.out j g (hCS g hh) rfl)
        obtain ⟨x7, c7⟩ := N7.some (p := o + j * 8 + 7) (by simp only [Array.size_setIfInBounds]; omega)
        have f7 := N7.frozen (o + j * 8 + 7)
        have N8 := N7.set (Or.inl rfl) (o + j * 8 + 7) (.int .i64 ((q + 5 + 2 * c.xa.size + c.cs.length : Nat) : Int))
        have sx6 : SlT (w6.setCell ⟨g, o + j * 8 + 7, none⟩ (.int .i64 ((q + 5 + 2 * c.xa.size + c.cs.length : Nat) : Int))) n SX (.slice Au c.xa.items.length mu) (mkF (q + 5) c.xa) := SX5.out.mono (λ h hh => by
          rw [Below.heap_setCell _ _ _ h (HKG.out j h (hXS h hh).1)]
          exact hch6.block h (Nat.lt_of_lt_of_le (lx4 h (hXS h hh).1) HZ5.out) (hXS h hh).2) (λ _ h => h)
        have sc7 : RowO (w6.setCell ⟨g, o + j * 8 + 7, none⟩ (.int .i64 ((q + 5 + 2 * c.xa.size + c.cs.length : Nat) : Int))) SC (.slice Bu c.cs.length ru) (ints (intMark (q + 5 + 2 * c.xa.size) c.cs.length)) := sc6.mono (λ h hh => Below.heap_setCell _ _ _ h (HKG.out j h (hCS h hh))) (λ _ h => h)
        have HT := Lib.hid (show CnT (w6.setCell ⟨g, o + j * 8 + 7, none⟩ (.int .i64 ((q + 5 + 2 * c.xa.size + c.cs.length : Nat) : Int))) (K j) (U j) (V j) (mkX q c) by
          rw [hu, hv]
          exact ⟨⟨markX_str (q + 1) (by omega), markX_str (q + 2) (by omega), markX_str (q + 4) (by omega)⟩, n, SX, SC, sx6, sc7, hXS, hCS⟩)
        have hmk : ((((((cur.setIfInBounds (o + j * 8) (.int .i64 (q : Int))).setIfInBounds (o + j * 8 + 1) (.string ⟨(markB (q + 1)).toArray⟩)).setIfInBounds (o + j * 8 + 2) (.string ⟨(markB (q + 2)).toArray⟩)).setIfInBounds (o + j * 8 + 3) (.int .i64 ((q + 3 : Nat) : Int))).setIfInBounds (o + j * 8 + 3 + 1) (.string ⟨(markB (q + 4)).toArray⟩)).setIfInBounds (o + j * 8 + 7) (.int .i64 ((q + 5 + 2 * c.xa.size + c.cs.length : Nat) : Int))) = mkCur cur (o + j * 8) q c := rfl
        rw [hmk] at N8
        have HP := Lib.hid (HR.out.step HX.out HQ.out HCU.out HKG.out HD.out (λ i h hh => Nat.lt_of_lt_of_le (HKL.out i h hh) hwz) hglr N8 HT.out)
        have HCN := Lib.hid (HCH.out.trans (N8.2.more (S' := S) (λ h hh => by
          rcases hh with rfl | hh
          . exact HG.out
          . exact HKS.out j h hh)))
        clear N7 N8 sc6 hch6 hz6 sx6 sc7 hmk c6
        go_wp2_with fail
        go_roundw
        case rel => exact ⟨j + 1, q + 6 + 2 * c.xa.size + c.cs.length, by go_num, by go_num, HQ2, by omega, HP.out, HCN.out⟩
        case measure => simp [intOf]; omega
      . have hje : j = ps.length := by omega
        have hqe : q = k + nT ps := by rw [HQ.out, hje, List.take_length]
        have HQE := Lib.hid hqe
        have HJ := Lib.hid hje
        have hd : decide ((j : Int) < (ps.length : Int)) = false := by simp; omega
        clear hqe hje
        go_wp2_with fail
        go_ret
        obtain rfl := HJ.out
        refine ⟨by rw [HQE.out]; rfl, ⟨by rw [mkL_length]; exact hl, .inr ⟨g, o, m, K, by rw [mkL_length], HG.out, ?_, λ j h hh => ⟨HKS.out j h hh, HKG.out j h hh⟩, HD.out, λ i d hi => ?_⟩⟩, HCH.out⟩
        . obtain ⟨cur, hcur, _⟩ := HR.out.blk
          exact ⟨cur, t, hcur⟩
        . have hil : i < ps.length := by have := (List.getElem?_eq_some_iff.1 hi).1; rwa [mkL_length] at this
          have hx := List.getElem?_eq_getElem hil
          rw [mkL_at ps k i _ hx] at hi
          cases hi
          have e1 : stX k ps.length ps i ps[i] = mkX (k + nT (ps.take i)) ps[i] := if_pos hil
          obtain ⟨cur, hcur, hA⟩ := HR.out.blk
          have h1 := hA i _ hx
          have h2 := HR.out.el i _ hx
          rw [e1] at h1 h2
          exact ⟨U i, V i, h1.at hcur, h2⟩
theorem heldIntS_any (k0 n : Nat) (v : Value) (S : Nat -> Prop) (w : World) (h : RowV w S v (ints (intMark k0 n))) (hn : n <= 2097152) (hk : k0 <= 16777216) :
    Calls Tryz.prog 150 #[v, .int .i64 (k0 : Int)] w λ e w' => e = .returned (.int .i64 ((k0 + n : Nat) : Int)) /\ ∃ m, w' = w.drewN m := by
  obtain ⟨A, c, rfl⟩ := h.shape
  have HE := Lib.hid (λ j (hj : j < n) => h.at (j := j) (by rw [ints_length, intMark_length]; exact hj))
  clear h
  rw [ints_length, intMark_length]
  go_enter Tryz.func150, Tryz.ntmps150
  go_wp2_with fail
  go_loopw [1, 5] (λ y i wr => ∃ j m : Nat, i = .int .i64 j /\ y = .int .i64 ((k0 + j : Nat) : Int) /\ j <= n /\ wr = w.drewN m) (λ _ i _ => n - (intOf i).toNat)
  case atStart => exact ⟨0, 0, rfl, rfl, Nat.zero_le _, rfl⟩
  case round =>
    obtain ⟨j, m, rfl, rfl, hj, rfl⟩ := hrel
    by_cases hlt : j < n
    . obtain ⟨ad, rfl, -, hc1⟩ := HE.out j hlt
      rw [ints_at (by rw [intMark_length]; exact hlt), intMark_at hlt] at hc1
      have hne : ((((k0 + j : Nat) : Int)) != (((k0 + j : Nat) : Int))) = false := by simp
      go_wp2_with fail
      go_roundw
      case rel => exact ⟨j + 1, _, by go_num, by go_num, by omega, rfl⟩
      case measure => simp [intOf]; omega
    . obtain rfl : j = n := by omega
      go_wp2_with fail
      go_ret
      exact ⟨rfl, m, rfl⟩
theorem heldIntS_b (k0 n : Nat) (v : Value) (S : Nat -> Prop) (w : World) (h : RowV w S v (ints (intMark k0 n))) (hn : n <= 2097152) (hk : k0 <= 16777216) :
    Calls Tryz.prog 150 #[v, .int .i64 (k0 : Int)] w λ e w' => e = .returned (.int .i64 ((k0 + n : Nat) : Int)) /\ Below w.heap.size w w' :=
  (heldIntS_any k0 n v S w h hn hk).mono λ _ _ ⟨he, m, hm⟩ => ⟨he, by rw [hm]; exact below_draws (Below.refl _ _) m⟩
theorem markText_two (n : Nat) (w0 w : World) (a b : Addr) (v u : Value) (h0 : 0 < n) (h1 : n <= 9223372036854775807) (hb : Below w0.heap.size w0 w) (ha : a.block < w0.heap.size) (hb0 : b.block < w0.heap.size) (hc : w.cell? a = some v) (hd : w.cell? b = some u) :
    Calls Tryz.prog 146 #[.int .i64 n] w λ e w' => e = .returned (.string ⟨(markB n).toArray⟩) /\ (w'.cell? a = some v /\ w'.cell? b = some u) /\ Below w0.heap.size w0 w' :=
  (markText_any n w h0 h1).mono λ _ _ ⟨he, h⟩ => ⟨he, ⟨(h.cell (Nat.lt_of_lt_of_le ha hb.size)).trans hc, (h.cell (Nat.lt_of_lt_of_le hb0 hb.size)).trans hd⟩, hb.trans (h.mono hb.size)⟩
theorem heldS_any (n : Nat) : ∀ (k B : Nat) (v : Value) (f : Fr) (w : World), Sl w B n v (mkF k f) -> B <= w.heap.size -> 0 < k -> k + 2 * f.size <= 9223372036854775800 ->
    Calls Tryz.prog 149 #[v, .int .i64 k] w λ e w' => e = .returned (.int .i64 ((k + 2 * f.size : Nat) : Int)) /\ Below w.heap.size w w' := by
  induction n with
  | zero => intro k B v f w h; exact h.zero.elim
  | succ n ih =>
    intro k B v f w hS hB hk0 hkm
    obtain ⟨hl, A, c, rfl, hE⟩ := hS.open
    rw [mk_len] at hl hE ⊢
    have hsz : k + 2 * szs f.items <= 9223372036854775800 := by rw [<- szs_items]; exact hkm
    have HE := Lib.hid hE
    have HSZ := Lib.hid (szs_items f)
    clear hE hS
    go_enter Tryz.func149, Tryz.ntmps149
    go_wp2_with fail
    go_loopw [1, 5] (λ kv i wr => ∃ j q : Nat, i = .int .i64 j /\ kv = .int .i64 (q : Int) /\ q = k + 2 * szs (f.items.take j) /\ j <= f.items.length /\ Below w.heap.size w wr) (λ _ i _ => f.items.length - (intOf i).toNat)
    case atStart => exact ⟨0, k, rfl, rfl, by simp [szs], Nat.zero_le _, Below.refl _ _⟩
    case round =>
      obtain ⟨j, q, rfl, rfl, hq, hj, hb⟩ := hrel
      by_cases hlt : j < f.items.length
      . obtain ⟨g, o, rfl, hg, k1, l1, a1, u, hx, _, he, h4⟩ := HE.out j hlt
        obtain ⟨⟨k2, l2, a2⟩, hx2, rfl, rfl, rfl⟩ := mk_get hx
        have hst := szs_step hx2
        have hle := szs_take f.items (j + 1)
        rw [<- hq] at he h4
        obtain ⟨hc0, hc1, hc2⟩ := he.below (hb.mono hB) hg
        obtain ⟨r, hr⟩ : ∃ r, r = q + 2 + 2 * a2.size := ⟨_, rfl⟩
        have HQ2 := Lib.hid (show r = k + 2 * szs (f.items.take (j + 1)) by omega)
        have hq0 : 0 < q := by omega
        have hqm : q + 2 + 2 * a2.size <= 9223372036854775800 := by omega
        have hgw : g < w.heap.size := Nat.lt_of_lt_of_le hg hB
        have HI := Lib.hid (λ (w' : World) (hb' : Below w.heap.size w w') => ih (q + 2) B _ a2 w' (h4.mono (hb'.mono hB) (Nat.le_refl _)) (Nat.le_trans hB hb'.size) (by omega) hqm)
        rw [<- hr] at HI
        have hneg : decide ((r : Int) < 0) = false := by simp
        have hrm : r <= 9223372036854775800 := by omega
        have hp0 : 0 < q + 1 := by omega
        have hp1 : q + 1 <= 9223372036854775807 := by omega
        clear hq he h4 hx hx2 hst hle hr
        go_wp2_with fail
        go_region_held3 (λ w' => (w'.cell? ⟨g, o + j * 3 + 1, none⟩ = some (.string ⟨(markB (q + 1)).toArray⟩) /\ w'.cell? ⟨g, o + j * 3 + 2, none⟩ = some u) /\ Below w.heap.size w w') (first | exact ⟨⟨hc1, hc2⟩, hb.drew⟩ | exact ⟨⟨hc1, hc2⟩, hb⟩ | go_keep)
          (first | (go_at_call 146; refine (markText_two (q + 1) w _ ⟨g, o + j * 3 + 1, none⟩ ⟨g, o + j * 3 + 2, none⟩ (.string ⟨(markB (q + 1)).toArray⟩) u hp0 hp1 ?_ hgw hgw ?_ ?_).mono ?_; (simp [*]); (simp [*]); (simp [*]); rintro e w' ⟨rfl, ⟨hc1, hc2⟩, hb⟩))
        have HB2 := Lib.hid hb
        clear hb
        go_wp2_with fail
        go_at_call 149
        refine (HI.out _ HB2.out).mono ?_
        rintro e w4 ⟨rfl, hb4⟩
        have HB4 := Lib.hid (HB2.out.trans (hb4.mono HB2.out.size))
        clear hb4
        go_wp2_with fail
        go_roundw
        case rel => exact ⟨j + 1, r, by go_num, rfl, HQ2.out, by omega, HB4.out⟩
        case measure => simp [intOf]; omega
      . have hje : j = f.items.length := by omega
        have hqe : q = k + 2 * f.size := by rw [hq, hje, List.take_length, HSZ.out]
        have HQ := Lib.hid hqe
        have HB := Lib.hid hb
        have hd : decide ((j : Int) < (f.items.length : Int)) = false := by simp; omega
        clear hq hqe hje hb
        go_wp2_with fail
        go_ret
        exact ⟨by rw [HQ.out]; rfl, HB.out⟩
structure UpW (W : World) where
  w : World
  up : Below W.heap.size W w
instance upW_some (W : World) : Nonempty (UpW W) := ⟨⟨W, Below.refl _ _⟩⟩
theorem wp_region_up {P : Program} {W : World} {id : Nat} {Q : Exit -> Act -> World -> Prop} {a : Act} {l : List Oper} (hm : P.follows .mixedOrders = true) (hB : Region.lexB .any l.toArray = true)
    (h : wpQuiet P l.toArray (λ w' => ∃ n : UpW W, w' = n.w) (λ a' => ∀ w', (∃ n : UpW W, w' = n.w) -> Q .normal a' w') l a) : (Code.region id l.toArray true).wp P Q a W :=
  wp_region_quiet (C := λ w' => ∃ n : UpW W, w' = n.w) hm hB ⟨⟨_, (Below.refl W.heap.size W).drew⟩, rfl⟩ (by simpa using h)
theorem up_call {P : Program} {f : FuncId} {args : Array Value} {W : World} {n : UpW W} {v : Value} (h : Calls P f args n.w λ e w' => e = .returned v /\ Below n.w.heap.size n.w w') : Calls P f args n.w λ e w'' => e = .returned v /\ ∃ m : UpW W, w'' = m.w :=
  h.mono λ _ w' ⟨he, hb⟩ => ⟨he, ⟨w', n.up.trans (hb.mono n.up.size)⟩, rfl⟩
end Go.Proofs.YtppliiingoonlaaGreatDoor
