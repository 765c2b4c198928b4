/- errors.As, lead, Code and At at a lone fault and at nil: for programs without joined errors. -/
import Derived.Test.YtokkbipdkakenaaGreatDoorA
import Derived.WalkKit
import Derived.WalkSpells
import Derived.WalkLawsBesides
import Derived.Stop.Asserts
import Derived.LaidEql
import Derived.RowKitTokens
import Derived.IntWalk
import Derived.Lib.Hide
import Derived.Deep.QuietTactic
import Derived.BigQuiet
import Derived.Handy
namespace Go.Proofs.YtokkbipdkakenaaGreatDoor
open Go.RowKit Go.Extern.Stop Go.Stop Go.Extern

theorem as57_55 (v : Value) (x : TypeId) (w : World) : (Instr.typeAssert (.iface 53 v) x 56 true).run Tryz.prog w = .ok (.tuple #[.iface 53 v, .bool true]) w := run_typeAssert_hasB Tryz.underlying56 (by kernel_rfl) v x w
theorem as57_nil (x : TypeId) (w : World) : (Instr.typeAssert .nilIface x 56 true).run Tryz.prog w = .ok (.tuple #[.nilIface, .bool false]) w := by kernel_rfl
theorem own_nil (w : World) : Calls Tryz.prog 36 #[.nilIface] w fun e w' => e = .returned .nilIface ∧ w = w' := by
  have h0 := as57_nil
  go_enter Tryz.func36, Tryz.ntmps36
  go_wp2
  go_ret
  exact ⟨rfl, rfl⟩
theorem own_one (b : Nat) (w : World) : Calls Tryz.prog 36 #[.iface 53 (.pointer (some ⟨b, 0, none⟩))] w fun e w' => e = .returned (.iface 53 (.pointer (some ⟨b, 0, none⟩))) ∧ w = w' := by
  have h1 := as57_55
  go_enter Tryz.func36, Tryz.ntmps36
  go_wp2
  go_ret
  exact ⟨rfl, rfl⟩
theorem grownBy_setCellF (w : World) (a : Addr) (u : Value) : w.grownBy (w.setCell a u) (some a.block) :=
  ⟨rfl, rfl, rfl, by simp [World.setCell], fun k _ hne => Below.heap_setCell _ _ _ _ (fun e => hne (by rw [e]))⟩
/-! ### CLOSED FACTS ON THE MODEL's ENTRIES FOR internal/reflectlite, at this program's types: 25: *p.E · 27: **p.E · 23: error · 45: reflectlite's rtype · 1: how many package-level variables the dump has -/
theorem rf_valueOf27 (t : Addr) (w : World) : (ReflectliteValue.unpack (.iface 66 (.pointer (some t)))).run Tryz.prog w
    = .ok (.agg #[.pointer (some ⟨10, 66, none⟩), .pointer (some ⟨w.heap.size, 0, none⟩), .int .u64 150]) (w.alloc (.cells #[.pointer (some t)] 66)) := by kernel_rfl
theorem rf_type27 (a : Addr) (w : World) : (ReflectliteValue.methodAny (ReflectliteValue.valueError "reflectlite.Value.Type" 0) (fun t _ _ _ => ReflectliteType.toType t) #[.agg #[.pointer (some ⟨10, 66, none⟩), .pointer (some a), .int .u64 150]]).run Tryz.prog w
    = .ok (.iface 124 (.agg #[.pointer (some ⟨10, 66, none⟩)])) w := by kernel_rfl
theorem rf_kind27 (w : World) : ((ReflectliteType.abiMethod fun t => Functor.map (fun a : Nat => Value.int IntKind.u8 (a : Int)) (Rtype.kind t)) #[.pointer (some ⟨10, 66, none⟩)]).run Tryz.prog w = .ok (.int .u8 22) w := by kernel_rfl
theorem rf_kind25 (w : World) : ((ReflectliteType.abiMethod fun t => Functor.map (fun a : Nat => Value.int IntKind.u8 (a : Int)) (Rtype.kind t)) #[.pointer (some ⟨10, 53, none⟩)]).run Tryz.prog w = .ok (.int .u8 22) w := by kernel_rfl

/-! ### THE ENTRIES THAT READ OR WRITE MEMORY: laws with a premise on the cell (after Derived/Lib/ReflectliteSlice.lean's manner: each unfolding a lemma of its own, by rfl) -/
theorem rlm (z : Sem Value) (f : TypeId → Addr → Nat → Nat → Sem Value) (v : Value) :
    ReflectliteValue.method z f #[v] = (do match ← ReflectliteValue.parts v with | none => z | some (t, a, fl) => f t a fl (fl % 32)) := rfl
theorem rf_parts27 (a : Addr) (w : World) : (ReflectliteValue.parts (.agg #[.pointer (some ⟨10, 66, none⟩), .pointer (some a), .int .u64 150])).run Tryz.prog w = .ok (some (66, a, 150)) w := by kernel_rfl
/-- (Value).IsNil at the Value of a **p.E that is not nil. -/
theorem rf_isNil27 (a p : Addr) (W : World) (ha : W.cell? a = some (.pointer (some p))) :
    (ReflectliteValue.method (ReflectliteValue.valueError "reflectlite.Value.IsNil" 0) ReflectliteValue.isNil #[.agg #[.pointer (some ⟨10, 66, none⟩), .pointer (some a), .int .u64 150]]).run Tryz.prog W = .ok (.bool false) W := by
  rw [rlm]
  simp only [Sem.run_bind, rf_parts27, Result.andThen]
  simp [ReflectliteValue.isNil, loadVar, isAgg, underlying, Tryz.underlying66, ha, Result.andThen]

theorem rf_elem27 (w : World) : (ReflectliteType.method ReflectliteType.elem #[.agg #[.pointer (some ⟨10, 66, none⟩)]]).run Tryz.prog w = .ok (.iface 124 (.agg #[.pointer (some ⟨10, 53, none⟩)])) w := by kernel_rfl
theorem rf_implements25 (w : World) : (ReflectliteType.relation "Implements" ReflectliteType.implements_ #[.agg #[.pointer (some ⟨10, 53, none⟩)], .iface 124 (.agg #[.pointer (some ⟨10, 30, none⟩)])]).run Tryz.prog w = .ok (.bool true) w := by kernel_rfl
theorem rf_typeOf25 (v : Value) (w : World) : (ReflectliteType.typeOf #[.iface 53 v]).run Tryz.prog w = .ok (.iface 124 (.agg #[.pointer (some ⟨10, 53, none⟩)])) w := by kernel_rfl
theorem rf_assignable25 (w : World) : (ReflectliteType.relation "AssignableTo" ReflectliteType.assignableTo #[.agg #[.pointer (some ⟨10, 53, none⟩)], .iface 124 (.agg #[.pointer (some ⟨10, 53, none⟩)])]).run Tryz.prog w = .ok (.bool true) w := by kernel_rfl
theorem rf_valueOf25 (e : Addr) (w : World) : (ReflectliteValue.unpack (.iface 53 (.pointer (some e)))).run Tryz.prog w
    = .ok (.agg #[.pointer (some ⟨10, 53, none⟩), .pointer (some ⟨w.heap.size, 0, none⟩), .int .u64 150]) (w.alloc (.cells #[.pointer (some e)] 53)) := by kernel_rfl

theorem rf_elemOf27 (w : World) : (Rtype.elem? 66).run Tryz.prog w = .ok (some 53) w := by kernel_rfl
theorem rf_mk25 (p : Addr) (w : World) : (ReflectliteValue.mk 53 p ReflectliteValue.flagAddr).run Tryz.prog w = .ok (.agg #[.pointer (some ⟨10, 53, none⟩), .pointer (some p), .int .u64 406]) w := by kernel_rfl
/-- (Value).Elem at the Value of a **p.E that is not nil: the Value of the *p.E variable that it points to, addressable. -/
theorem rf_elemV27 (a p : Addr) (W : World) (ha : W.cell? a = some (.pointer (some p))) :
    (ReflectliteValue.method (ReflectliteValue.valueError "reflectlite.Value.Elem" 0) ReflectliteValue.elem #[.agg #[.pointer (some ⟨10, 66, none⟩), .pointer (some a), .int .u64 150]]).run Tryz.prog W
      = .ok (.agg #[.pointer (some ⟨10, 53, none⟩), .pointer (some p), .int .u64 406]) W := by
  rw [rlm]
  simp only [Sem.run_bind, rf_parts27, Result.andThen]
  simp [ReflectliteValue.elem, loadVar, isAgg, underlying, Tryz.underlying66, ha, Result.andThen, rf_elemOf27, rf_mk25]
theorem rls (v x : Value) : ReflectliteValue.set #[v, x] = (do
    let (some (dst, a, fl), some (src, b, _)) := (← ReflectliteValue.parts v, ← ReflectliteValue.parts x)
      | unsupported (.noEntry "extern/(internal/reflectlite.Value).Set.zeroValue")
    if fl / ReflectliteValue.flagAddr % 2 == 0 then unsupported (.noEntry "extern/(internal/reflectlite.Value).Set.unaddressable")
    let val ← loadVar src b
    if ← Rtype.directlyAssignable dst src then storeVar dst a val
    else if ← Rtype.implements dst src then
      if (← Rtype.kind src) == 20 then
        match val with
        | .nilIface => unsupported (.noEntry "extern/reflectlite: a nil value of one interface type handed on as a value of another")
        | _ => storeVar dst a val
      else storeVar dst a (.iface src val)
    else panicString ("reflectlite.Set: value of type " ++ (← Rtype.spelt src) ++ " is not assignable to type " ++ (← Rtype.spelt dst))
    pure (.tuple #[])) := rfl
theorem rf_parts25a (a : Addr) (w : World) : (ReflectliteValue.parts (.agg #[.pointer (some ⟨10, 53, none⟩), .pointer (some a), .int .u64 406])).run Tryz.prog w = .ok (some (53, a, 406)) w := by kernel_rfl
theorem rf_parts25 (a : Addr) (w : World) : (ReflectliteValue.parts (.agg #[.pointer (some ⟨10, 53, none⟩), .pointer (some a), .int .u64 150])).run Tryz.prog w = .ok (some (53, a, 150)) w := by kernel_rfl
theorem rf_direct25 (w : World) : (Rtype.directlyAssignable 53 53).run Tryz.prog w = .ok true w := by kernel_rfl
theorem rf_size25 (w : World) : (sizeOf 53).run Tryz.prog w = .ok 1 w := by kernel_rfl
/-- (Value).Set: the *p.E variable at 'ta' gets what the Value's own variable 'b' holds. -/
theorem rf_set25 (ta b e : Addr) (old : Value) (W : World) (hb : W.cell? b = some (.pointer (some e))) (ht : W.cell? ta = some old) (hf : W.frozen? ta = false) :
    (ReflectliteValue.set #[.agg #[.pointer (some ⟨10, 53, none⟩), .pointer (some ta), .int .u64 406], .agg #[.pointer (some ⟨10, 53, none⟩), .pointer (some b), .int .u64 150]]).run Tryz.prog W
      = .ok (.tuple #[]) (W.setCell ta (.pointer (some e))) := by
  rw [rls]
  simp only [Sem.run_bind, rf_parts25a, rf_parts25, Result.andThen]
  simp [ReflectliteValue.flagAddr, loadVar, isAgg, underlying, Tryz.underlying53, hb, Result.andThen, rf_direct25, storeVar, Value.cells, storeCells, Addr.add]
  rw [run_store Tryz.prog W ta _ _ (by rfl)]
  simp [ht, hf]


/-- the target is set; all else that was there is as it was -/
def Hit (t : Addr) (b : Nat) (w : World) : Ending → World → Prop := fun e w' => e = .returned (.bool true) ∧ w.grownBy w' (some t.block) ∧ w'.cell? t = some (.pointer (some ⟨b, 0, none⟩)) ∧ w'.frozen? t = false

set_option maxHeartbeats 2000000 in
theorem as_fault (b : Nat) (t va : Addr) (old : Value) (w : World) (ht0 : w.cell? t = some old) (hf0 : w.frozen? t = false) (hva : w.cell? va = some (.pointer (some t))) :
    Calls Tryz.prog 60 #[.iface 53 (.pointer (some ⟨b, 0, none⟩)), .iface 66 (.pointer (some t)), .agg #[.pointer (some ⟨10, 66, none⟩), .pointer (some va), .int .u64 150], .iface 124 (.agg #[.pointer (some ⟨10, 53, none⟩)])] w
      fun e w' => e = .returned (.bool true) ∧ w' = ((w.alloc (.cells #[.pointer (some ⟨10, 66, none⟩), .pointer (some va), .int .u64 150] 97)).alloc (.cells #[.pointer (some ⟨b, 0, none⟩)] 53)).setCell t (.pointer (some ⟨b, 0, none⟩)) := by
  have h35 := @run_callFunc_extern Tryz.prog 57 _ (fun args => ReflectliteValue.unpack (args.getD 0 (.tuple #[]))) Tryz.func57 (by kernel_rfl) (by kernel_rfl) (by kernel_rfl) (by kernel_rfl)
  have h33 := @run_callFunc_extern Tryz.prog 82 _ ReflectliteType.typeOf Tryz.func82 (by kernel_rfl) (by kernel_rfl) (by kernel_rfl) (by kernel_rfl)
  have h73 := @run_callFunc_extern Tryz.prog 138 _ (ReflectliteType.relation "AssignableTo" ReflectliteType.assignableTo) Tryz.func138 (by kernel_rfl) (by kernel_rfl) (by kernel_rfl) (by kernel_rfl)
  have h39 := @run_callFunc_extern Tryz.prog 83 _ (ReflectliteValue.method (ReflectliteValue.valueError "reflectlite.Value.Elem" 0) ReflectliteValue.elem) Tryz.func83 (by kernel_rfl) (by kernel_rfl) (by kernel_rfl) (by kernel_rfl)
  have h40 := @run_callFunc_extern Tryz.prog 84 _ ReflectliteValue.set Tryz.func84 (by kernel_rfl) (by kernel_rfl) (by kernel_rfl) (by kernel_rfl)
  have tO := rf_typeOf25
  have a25 := rf_assignable25
  have v25 := rf_valueOf25
  have htl : t.block < w.heap.size := World.block_lt_of_cell? w t ht0
  have hvl : va.block < w.heap.size := World.block_lt_of_cell? w va hva
  have el := rf_elemV27 va t (w.alloc (.cells #[.pointer (some ⟨10, 66, none⟩), .pointer (some va), .int .u64 150] 97)) (by rw [World.cell?_alloc_lt _ _ va hvl]; exact hva)
  have st := rf_set25 t ⟨w.heap.size + 1, 0, none⟩ ⟨b, 0, none⟩ old ((w.alloc (.cells #[.pointer (some ⟨10, 66, none⟩), .pointer (some va), .int .u64 150] 97)).alloc (.cells #[.pointer (some ⟨b, 0, none⟩)] 53))
    (by rw [World.cell?_alloc_at _ _ _ _ (by simp)]; rfl)
    (by rw [World.cell?_alloc_lt _ _ t (by simp; omega), World.cell?_alloc_lt _ _ t htl]; exact ht0)
    (by rw [World.frozen?_alloc_old _ _ t (by simp; omega), World.frozen?_alloc_old _ _ t (Nat.ne_of_lt htl)]; exact hf0)
  clear ht0 hf0 hva
  go_enter Tryz.func60, Tryz.ntmps60
  go_wp2
  refine wp_loop_rounds 1 ?_
  rw [rounds_succ]
  go_wp2
  go_ret
  exact ⟨rfl, rfl⟩

set_option maxHeartbeats 4000000 in
/-- errors.As, an error that is not nil -/
theorem As_core (T : TypeId) (hT : T = 53) (b : Nat) (t : Addr) (old : Value) (w : World) (R : World → Prop) (hg : w.cell? ⟨0, 0, none⟩ = some (.iface 124 (.agg #[.pointer (some ⟨10, 30, none⟩)]))) (ht0 : w.cell? t = some old)
    (HC : Hid (Calls Tryz.prog 60 #[.iface T (.pointer (some ⟨b, 0, none⟩)), .iface 66 (.pointer (some t)), .agg #[.pointer (some ⟨10, 66, none⟩), .pointer (some ⟨w.heap.size, 0, none⟩), .int .u64 150], .iface 124 (.agg #[.pointer (some ⟨10, 53, none⟩)])]
      ((w.alloc (.cells #[.pointer (some t)] 66)).alloc (.cells #[.pointer (some ⟨10, 66, none⟩), .pointer (some ⟨w.heap.size, 0, none⟩), .int .u64 150] 97)) fun e w' => e = .returned (.bool true) ∧ R w')) :
    Calls Tryz.prog 35 #[.iface T (.pointer (some ⟨b, 0, none⟩)), .iface 66 (.pointer (some t))] w fun e w' => e = .returned (.bool true) ∧ R w' := by
  have h35 := @run_callFunc_extern Tryz.prog 57 _ (fun args => ReflectliteValue.unpack (args.getD 0 (.tuple #[]))) Tryz.func57 (by kernel_rfl) (by kernel_rfl) (by kernel_rfl) (by kernel_rfl)
  have h36 := @run_callFunc_extern Tryz.prog 58 _ (ReflectliteValue.methodAny (ReflectliteValue.valueError "reflectlite.Value.Type" 0) (fun t _ _ _ => ReflectliteType.toType t)) Tryz.func58 (by kernel_rfl) (by kernel_rfl) (by kernel_rfl) (by kernel_rfl)
  have h37 := @run_callFunc_extern Tryz.prog 59 _ (ReflectliteValue.method (ReflectliteValue.valueError "reflectlite.Value.IsNil" 0) ReflectliteValue.isNil) Tryz.func59 (by kernel_rfl) (by kernel_rfl) (by kernel_rfl) (by kernel_rfl)
  have h55 := @run_callFunc_extern Tryz.prog 128 _ (ReflectliteType.abiMethod fun t => do pure (.int .u8 (← Rtype.kind t))) Tryz.func128 (by kernel_rfl) (by kernel_rfl) (by kernel_rfl) (by kernel_rfl)
  have h75 := @run_callFunc_extern Tryz.prog 140 _ (ReflectliteType.method ReflectliteType.elem) Tryz.func140 (by kernel_rfl) (by kernel_rfl) (by kernel_rfl) (by kernel_rfl)
  have h76 := @run_callFunc_extern Tryz.prog 141 _ (ReflectliteType.relation "Implements" ReflectliteType.implements_) Tryz.func141 (by kernel_rfl) (by kernel_rfl) (by kernel_rfl) (by kernel_rfl)
  have f6 := rf_valueOf27
  have f7 := rf_type27
  have k27 := rf_kind27
  have k25 := rf_kind25
  have e27 := rf_elem27
  have i25 := rf_implements25
  have htl : t.block < w.heap.size := World.block_lt_of_cell? w t ht0
  have n8 := rf_isNil27 ⟨w.heap.size, 0, none⟩ t ((w.alloc (.cells #[.pointer (some t)] 66)).alloc (.cells #[.pointer (some ⟨10, 66, none⟩), .pointer (some ⟨w.heap.size, 0, none⟩), .int .u64 150] 97)) (by simp)
  have hlt : 0 < w.heap.size := World.block_lt_of_cell? w ⟨0, 0, none⟩ hg
  have hg2 : ((w.alloc (.cells #[.pointer (some t)] 66)).alloc (.cells #[.pointer (some ⟨10, 66, none⟩), .pointer (some ⟨w.heap.size, 0, none⟩), .int .u64 150] 97)).cell? ⟨0, 0, none⟩ = some (.iface 124 (.agg #[.pointer (some ⟨10, 30, none⟩)])) := by
    rw [World.cell?_alloc_lt _ _ ⟨0, 0, none⟩ (by simp <;> omega), World.cell?_alloc_lt _ _ ⟨0, 0, none⟩ hlt]; exact hg
  clear hg ht0
  subst hT
  all_goals
    go_enter Tryz.func35, Tryz.ntmps35
    go_wp2_with (first | (go_at_call 60; refine HC.out.mono ?_; intro e w1 hr; obtain ⟨he, hv⟩ := hr; subst he; have HW := Lib.hid hv; clear hv) | go_in)
    go_ret
    exact ⟨rfl, HW.out⟩

/-- the package variable's cell -/
def Handle (w : World) : Prop := w.cell? ⟨0, 0, none⟩ = some (.iface 124 (.agg #[.pointer (some ⟨10, 30, none⟩)]))
theorem Handle.lt {w : World} (h : Handle w) : 0 < w.heap.size := World.block_lt_of_cell? w ⟨0, 0, none⟩ h
theorem Handle.below {w w' : World} (h : Handle w) (hb : Below w.heap.size w w') : Handle w' := (hb.cell (p := ⟨0, 0, none⟩) h.lt).trans h
theorem grownBy_below {w w' : World} {row : Option Nat} (h : Below w.heap.size w w') : w.grownBy w' row := ⟨h.os, h.tape, h.output, h.size, fun k hk _ => h.block k hk⟩
theorem grownBy_trans {a b c : World} {row : Option Nat} (h : a.grownBy b row) (k : b.grownBy c row) : a.grownBy c row :=
  ⟨k.os.trans h.os, k.tape.trans h.tape, k.output.trans h.output, Nat.le_trans h.size k.size, fun i hi hr => (k.block i (Nat.lt_of_lt_of_le hi h.size) hr).trans (h.block i hi hr)⟩

/-- a lone fault in memory -/
def Lone (w : World) (b : Nat) (c p : Int) : Prop := w.heap[b]? = some (.cells #[.int .i64 c, .int .i64 p, .nilIface, .int .i64 1] 58 (0, 0))
theorem Lone.lt {w : World} {b : Nat} {c p : Int} (h : Lone w b c p) : b < w.heap.size := (Array.getElem?_eq_some_iff.1 h).1
theorem Lone.below {w w' : World} {b : Nat} {c p : Int} (h : Lone w b c p) (hb : Below w.heap.size w w') : Lone w' b c p := (hb.block b h.lt).trans h
theorem As_one (t : Addr) (b : Nat) (old : Value) (w : World) (hg : Handle w) (ht : w.cell? t = some old) (hf : w.frozen? t = false) :
    Calls Tryz.prog 35 #[.iface 53 (.pointer (some ⟨b, 0, none⟩)), .iface 66 (.pointer (some t))] w (Hit t b w) := by
  have tl := World.block_lt_of_cell? w t ht
  have hB := alloc2_below w (.cells #[.pointer (some t)] 66) (.cells #[.pointer (some ⟨10, 66, none⟩), .pointer (some ⟨w.heap.size, 0, none⟩), .int .u64 150] 97)
  refine (As_core 53 rfl b t old w (fun w' => w.grownBy w' (some t.block) ∧ w'.cell? t = some (.pointer (some ⟨b, 0, none⟩)) ∧ w'.frozen? t = false) hg ht
    ((as_fault b t ⟨w.heap.size, 0, none⟩ old _ ((hB.cell tl).trans ht) ((hB.frozen tl).trans hf) (by rw [World.cell?_alloc_lt _ _ _ (by simp), World.cell?_alloc_at _ _ _ _ rfl]; rfl)).mono ?_)).mono ?_
  · rintro e w' ⟨he, rfl⟩
    have hB2 := (alloc2_below ((w.alloc (.cells #[.pointer (some t)] 66)).alloc (.cells #[.pointer (some ⟨10, 66, none⟩), .pointer (some ⟨w.heap.size, 0, none⟩), .int .u64 150] 97))
      (.cells #[.pointer (some ⟨10, 66, none⟩), .pointer (some ⟨w.heap.size, 0, none⟩), .int .u64 150] 97) (.cells #[.pointer (some ⟨b, 0, none⟩)] 53))
    have hB3 := hB.trans (hB2.mono hB.size)
    refine ⟨he, grownBy_trans (grownBy_below hB3) (grownBy_setCellF _ _ _), ?_, ?_⟩
    · exact World.cell?_setCell_same _ _ _ ((hB3.cell tl).trans ht)
    · rw [World.frozen?_setCell]; exact (hB3.frozen tl).trans hf
  · rintro e w' h; exact h
theorem lead_nil (w : World) : Calls Tryz.prog 22 #[.nilIface] w fun e w' => e = .returned (.pointer none) ∧ w' = w.alloc (.cells #[.pointer none] 53) := by
  have HO : Hid (∀ w, Calls Tryz.prog 36 #[.nilIface] w fun e w' => e = .returned .nilIface ∧ w = w') := Lib.hid own_nil
  go_enter Tryz.func22, Tryz.ntmps22
  go_wp2_with (first | (go_at_call 36; refine (HO.out _).mono ?_; rintro e w' ⟨rfl, rfl⟩) | go_in)
  go_ret
  exact ⟨rfl, rfl⟩

theorem lead_core (T : TypeId) (hT : T = 53) (b : Nat) (f : Value) (w : World) (R : World → Prop)
    (HO : Hid (∀ w, Calls Tryz.prog 36 #[.iface T (.pointer (some ⟨b, 0, none⟩))] w fun e w' => e = .returned (.iface T (.pointer (some ⟨b, 0, none⟩))) ∧ w = w'))
    (HC : Hid (Calls Tryz.prog 35 #[.iface T (.pointer (some ⟨b, 0, none⟩)), .iface 66 (.pointer (some ⟨w.heap.size, 0, none⟩))] (w.alloc (.cells #[.pointer none] 53)) fun e w' => e = .returned (.bool true) ∧ w'.cell? ⟨w.heap.size, 0, none⟩ = some f ∧ R w')) :
    Calls Tryz.prog 22 #[.iface T (.pointer (some ⟨b, 0, none⟩))] w fun e w' => e = .returned f ∧ R w' := by
  subst hT
  all_goals
    go_enter Tryz.func22, Tryz.ntmps22
    go_wp2_with (first | (go_at_call 36; refine (HO.out _).mono ?_; rintro e w' ⟨rfl, rfl⟩) | (go_at_call 35; refine HC.out.mono ?_; intro e w1 hr; obtain ⟨he, hcell, hv⟩ := hr; subst he; have HW := Lib.hid hv; clear hv))
    go_ret
    exact ⟨rfl, HW.out⟩

theorem lead_one (b : Nat) (w : World) (hg : Handle w) : Calls Tryz.prog 22 #[.iface 53 (.pointer (some ⟨b, 0, none⟩))] w fun e w' => e = .returned (.pointer (some ⟨b, 0, none⟩)) ∧ Below w.heap.size w w' := by
  have ho := own_one b
  have hB := alloc_below w (.cells #[.pointer none] 53)
  have hc := As_one ⟨w.heap.size, 0, none⟩ b (.pointer none) (w.alloc (.cells #[.pointer none] 53)) (hg.below hB) (by simp) (by simp)
  refine lead_core 53 rfl b _ w _ (Lib.hid ho) (Lib.hid (hc.mono ?_))
  rintro e w' ⟨he, h1, h2, h3⟩
  exact ⟨he, h2, (hB.trans ⟨h1.os, h1.tape, h1.output, h1.size, fun k hk => h1.block k (by simp; omega) (by simp; omega)⟩)⟩
theorem at_nil (w : World) : Calls Tryz.prog 8 #[.nilIface] w fun e w' => e = .returned (.int .i64 (-1)) ∧ w' = w.alloc (.cells #[.pointer none] 53) := by
  go_enter Tryz.func8, Tryz.ntmps8
  go_wp2_with (go_at_call 22; refine (lead_nil _).mono ?_; rintro e w' ⟨rfl, rfl⟩)
  go_ret
  exact ⟨rfl, rfl⟩
theorem at_core (v : Value) (b : Nat) (c : Int) (w : World) (R : World → Prop)
    (HC : Hid (Calls Tryz.prog 22 #[v] w fun e w' => e = .returned (.pointer (some ⟨b, 0, none⟩)) ∧ w'.cell? ⟨b, 1, none⟩ = some (.int .i64 c) ∧ R w')) :
    Calls Tryz.prog 8 #[v] w fun e w' => e = .returned (.int .i64 c) ∧ R w' := by
  go_enter Tryz.func8, Tryz.ntmps8
  go_wp2_with (go_at_call 22; refine HC.out.mono ?_; intro e w1 hr; obtain ⟨he, hcell, hv⟩ := hr; subst he; have HW := Lib.hid hv; clear hv)
  go_ret
  exact ⟨rfl, HW.out⟩
theorem at_one {w : World} {b : Nat} {c p : Int} (h : Lone w b c p) (hg : Handle w) : Calls Tryz.prog 8 #[.iface 53 (.pointer (some ⟨b, 0, none⟩))] w (Ans (.int .i64 p) w) := by
  refine at_core _ b p w _ (Lib.hid ((lead_one b w hg).mono ?_))
  rintro e w' ⟨he, hb⟩
  have := h.below hb
  exact ⟨he, by simp [World.cell?, Lone] at this ⊢; simp [this], hb⟩
theorem at_none (w : World) : Calls Tryz.prog 8 #[.nilIface] w (Ans (.int .i64 (-1)) w) := (at_nil w).mono fun _ _ ⟨h1, h2⟩ => ⟨h1, by rw [h2]; exact alloc_below _ _⟩
end Go.Proofs.YtokkbipdkakenaaGreatDoor
