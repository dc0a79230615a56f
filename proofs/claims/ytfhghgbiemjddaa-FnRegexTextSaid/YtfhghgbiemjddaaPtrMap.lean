/-
  A map of the call's own whose keys are pointers to ordinary cells: a look-up and a store at a key that it does not hold. Of no program.
-/
import Derived.Test.YtfhghgbiemjddaaTree
import Derived.LaidEql
import Derived.Maps.Own
namespace Go.Proofs.Ytfhghgbiemjddaa
open Go.RowKit

/-- Block b is a map; each of its keys is a pointer of M. -/
def PtrMap (w : World) (b : Nat) (M : Addr → Prop) : Prop := ∃ es clock, w.heap[b]? = some (.map es clock) ∧ ∀ e ∈ es.toList, ∃ q, e.key = .pointer (some q) ∧ M q
theorem PtrMap.same {w w' : World} {b : Nat} {M : Addr → Prop} (h : PtrMap w b M) (hs : w'.heap[b]? = w.heap[b]?) : PtrMap w' b M := by
  obtain ⟨es, clock, hb, hk⟩ := h
  exact ⟨es, clock, hs.trans hb, hk⟩
theorem PtrMap.lt {w : World} {b : Nat} {M : Addr → Prop} (h : PtrMap w b M) : b < w.heap.size := by
  obtain ⟨es, clock, hb, _⟩ := h
  exact (Array.getElem?_eq_some_iff.1 hb).1
theorem PtrMap.made (w : World) (M : Addr → Prop) : PtrMap (w.alloc (.map #[] 0)) w.heap.size M := ⟨#[], 0, (MapKept.heap_alloc w _).1, by simp⟩

section
variable {P : Program} {k e : TypeId}
theorem run_equalIn_ptr_other (d : Nat) {i : TypeInfo} (hk : P.underlying k = some (.pointer e)) (hi : P.info? e = some i) (hz : i.size ≠ 0) (w : World) {p q : Addr} (hne : p ≠ q) (hp : Plain w p.block) (hq : Plain w q.block) :
    (Op.equalIn (d + 1) k (.pointer (some p)) (.pointer (some q))).run P w = .ok false w := by
  obtain ⟨c1, t1, h1⟩ := hp
  obtain ⟨c2, t2, h2⟩ := hq
  simp [Op.equalIn, run_underlying hk, sizeOf, typeInfo, hi, hz, run_sameAddr_other w hne h1 h2]
theorem run_equal_ptr_other {i : TypeInfo} (hk : P.underlying k = some (.pointer e)) (hi : P.info? e = some i) (hz : i.size ≠ 0) (w : World) {p q : Addr} (hne : p ≠ q) (hp : Plain w p.block) (hq : Plain w q.block) :
    (Op.equal k (.pointer (some p)) (.pointer (some q))).run P w = .ok false w := run_equalIn_ptr_other 9999 hk hi hz w hne hp hq
theorem run_checkKey_ptr (em : Bool) (n : Nat) (hk : P.underlying k = some (.pointer e)) (w : World) (p : Option Addr) : (Instr.checkKey em (n + 1) k (.pointer p)).run P w = .ok () w := by
  unfold Instr.checkKey
  simp [run_underlying hk]
theorem run_findAsking_none {i : TypeInfo} (hk : P.underlying k = some (.pointer e)) (hi : P.info? e = some i) (hz : i.size ≠ 0) (w : World) {p : Addr} (hp : Plain w p.block) :
    ∀ (es : List MapEntry) (n : Nat), (∀ x ∈ es, ∃ q, x.key = .pointer (some q) ∧ p ≠ q ∧ Plain w q.block) → (Instr.findAsking k (.pointer (some p)) es n).run P w = .ok none w
  | [], n, _ => by simp [Instr.findAsking]
  | x :: r, n, h => by
    obtain ⟨q, hx, hne, hq⟩ := h x (by simp)
    have ih := run_findAsking_none hk hi hz w hp r (n + 1) (fun y hy => h y (by simp [hy]))
    simp [Instr.findAsking, hx, run_equal_ptr_other hk hi hz w hne hp hq, ih]
theorem run_findKey_none {i : TypeInfo} (hk : P.underlying k = some (.pointer e)) (hi : P.info? e = some i) (hz : i.size ≠ 0) (w : World) {p : Addr} (hp : Plain w p.block)
    (es : List MapEntry) (h : ∀ x ∈ es, ∃ q, x.key = .pointer (some q) ∧ p ≠ q ∧ Plain w q.block) : (Instr.findKey k (.pointer (some p)) es).run P w = .ok none w := by
  cases es with
  | nil => simp [Instr.findKey, run_underlying hk, Instr.findNow]
  | cons x r =>
    obtain ⟨q, hx, hne, hq⟩ := h x (by simp)
    simp [Instr.findKey, run_underlying hk, Instr.findNow, hx, Instr.sameNow, run_findAsking_none hk hi hz w hp (x :: r) 0 h]
theorem run_lookup_new {t : TypeId} {i : TypeInfo} {b : Nat} {M : Addr → Prop} (ht : P.underlying t = some (.map k k)) (hk : P.underlying k = some (.pointer e)) (hi : P.info? e = some i) (hz : i.size ≠ 0) (w : World)
    (h0 : (zeroValue k).run P w = .ok (.pointer none) w) (hm : PtrMap w b M) {p : Addr} (hp : Plain w p.block) (hM : ∀ q, M q → p ≠ q ∧ Plain w q.block) :
    (Instr.lookup t (.map (some b)) (.pointer (some p)) false).run P w = .ok (.pointer none) w := by
  obtain ⟨es, clock, hb, hes⟩ := hm
  have hf := run_findKey_none hk hi hz w hp es.toList (fun x hx => by
    obtain ⟨q, hq, hMq⟩ := hes x hx
    exact ⟨q, hq, (hM q hMq).1, (hM q hMq).2⟩)
  simp [Instr.lookup, run_underlying ht, MapKept.run_getObj_map hb, run_checkKey_ptr es.isEmpty 9999 hk w, hf, h0]
theorem run_update_new {t : TypeId} {i : TypeInfo} {b : Nat} {M : Addr → Prop} (ht : P.underlying t = some (.map k k)) (hk : P.underlying k = some (.pointer e)) (hi : P.info? e = some i) (hz : i.size ≠ 0) (w : World)
    (hm : PtrMap w b M) {p : Addr} (v : Value) (hp : Plain w p.block) (hM : ∀ q, M q → p ≠ q ∧ Plain w q.block) :
    ∃ w', (Instr.mapUpdate t (.map (some b)) (.pointer (some p)) v).run P w = .ok () w' ∧ PtrMap w' b (fun q => M q ∨ q = p) ∧ w.grownBy w' (some b) := by
  obtain ⟨es, clock, hb, hes⟩ := hm
  have hf := run_findKey_none hk hi hz w hp es.toList (fun x hx => by
    obtain ⟨q, hq, hMq⟩ := hes x hx
    exact ⟨q, hq, (hM q hMq).1, (hM q hMq).2⟩)
  refine ⟨ChangeMaps.setBlock w b (.map (es.push ⟨.pointer (some p), v, clock⟩) (clock + 1)), ?_, ⟨_, _, ChangeMaps.heap_setBlock_same hb _, fun x hx => ?_⟩, ⟨rfl, rfl, rfl, by simp [ChangeMaps.setBlock], fun j _ hj => ChangeMaps.heap_setBlock_other hb _ (fun e => hj (by rw [e]))⟩⟩
  · simp [Instr.mapUpdate, run_underlying ht, MapKept.run_getObj_map hb, run_checkKey_ptr false 9999 hk w, hf, MapKept.run_setObj_map _ hb, ChangeMaps.setBlock]
  · simp only [Array.toList_push, List.mem_append, List.mem_singleton] at hx
    rcases hx with hx | rfl
    · obtain ⟨q, hq, hMq⟩ := hes x hx
      exact ⟨q, hq, .inl hMq⟩
    · exact ⟨p, rfl, .inr rfl⟩
theorem run_eql_ptr_other {i : TypeInfo} (hk : P.underlying k = some (.pointer e)) (hi : P.info? e = some i) (hz : i.size ≠ 0) (w : World) {p q : Addr} (hne : p ≠ q) (hp : Plain w p.block) (hq : Plain w q.block) :
    (binOp .eql k (.pointer (some p)) (.pointer (some q))).run P w = .ok (.bool false) w := by
  simp only [binOp]
  simp [run_equal_ptr_other hk hi hz w hne hp hq]
end

theorem rxInfo2 : ∃ i, Try.prog.info? 26 = some i ∧ i.size ≠ 0 := by
  have h : (Try.prog.info? 26).map (fun i => i.size) = some 3 := by kernel_rfl
  obtain ⟨i, hi, h3⟩ := Option.map_eq_some_iff.1 h
  exact ⟨i, hi, by rw [h3]; decide⟩

/-- A node that is in no class leads to itself. -/
theorem head_new (b : Nat) (M : Addr → Prop) (p : Addr) (w : World) (hm : PtrMap w b M) (hp : Plain w p.block) (hM : ∀ q, M q → p ≠ q ∧ Plain w q.block) :
    Calls Try.prog 53 #[.map (some b), .pointer (some p)] w fun e w' => e = .returned (.pointer (some p)) ∧ w = w' := by
  obtain ⟨i, hi, hz⟩ := rxInfo2
  have hl : (Instr.lookup 52 (.map (some b)) (.pointer (some p)) false).run Try.prog w = .ok (.pointer none) w :=
    run_lookup_new Try.underlying52 Try.underlying53 hi hz w (by kernel_rfl) hm hp hM
  clear hi hz hm hp hM
  go_enter Try.func53, Try.ntmps53
  go_wp2
  refine wp_loop_rounds 1 ?_
  rw [rounds_succ]
  go_wp2
  go_ret
  exact ⟨rfl, rfl⟩
/-- Two nodes that are in no class come into one. -/
theorem join_new (b : Nat) (M : Addr → Prop) (p q : Addr) (w : World) (hm : PtrMap w b M) (hp : Plain w p.block) (hq : Plain w q.block) (hne : p ≠ q) (hM : ∀ r, M r → (p ≠ r ∧ q ≠ r) ∧ Plain w r.block) :
    Calls Try.prog 33 #[.map (some b), .pointer (some p), .pointer (some q)] w fun e w' => e = .returned (.bool true) ∧ PtrMap w' b (fun r => M r ∨ r = p) ∧ w.grownBy w' (some b) := by
  obtain ⟨i, hi, hz⟩ := rxInfo2
  have HP := Lib.hid (head_new b M p w hm hp (fun r hr => ⟨(hM r hr).1.1, (hM r hr).2⟩))
  have HQ := Lib.hid (head_new b M q w hm hq (fun r hr => ⟨(hM r hr).1.2, (hM r hr).2⟩))
  have he : (binOp .eql 53 (.pointer (some p)) (.pointer (some q))).run Try.prog w = .ok (.bool false) w := run_eql_ptr_other Try.underlying53 hi hz w hne hp hq
  obtain ⟨w2, hu, hm2, hg2⟩ := run_update_new (t := 52) Try.underlying52 Try.underlying53 hi hz w hm (.pointer (some q)) hp (fun r hr => ⟨(hM r hr).1.1, (hM r hr).2⟩)
  have HM2 := Lib.hid hm2
  have HG2 := Lib.hid hg2
  clear hi hz hm hp hq hM hm2 hg2 hne
  go_enter Try.func33, Try.ntmps33
  go_wp2_with fail
  refine HP.out.mono ?_
  rintro e w1 ⟨rfl, rfl⟩
  go_wp2_with fail
  refine HQ.out.mono ?_
  rintro e w1 ⟨rfl, rfl⟩
  go_wp2_with fail
  go_ret
  exact ⟨rfl, HM2.out, HG2.out⟩
end Go.Proofs.Ytfhghgbiemjddaa
