/- And, Or, Not of what is no truth; the document's Truth, And, Or, Not, Of. -/
import Derived.Test.YtneppncnccangaaGreatDoorP
import Derived.Test.YtneppncnccangaaGreatDoorRO
namespace Go.Proofs.YtneppncnccangaaGreatDoor
open Go.RowKit
attribute [local go_sem ↓] eqV

/-- it refuses: a fault of the kind, at a place -/
def TrB (p : Int) (w : World) (e : Ending) (w' : World) : Prop := ∃ N : Nat, e = .returned (.tuple #[.agg #[.int .i64 0, .int .i64 0, .string ⟨#[]⟩], .iface 48 (.pointer (some ⟨N, 0, none⟩))]) ∧ w'.heap[N]? = some (.cells (newCells 22 p) 53 (0, 0)) ∧ Below w.heap.size w w'
theorem isT_tv' (t : T3) : isT ⟨tk t, tn t, ⟨#[]⟩⟩ = true := isT_tv t
/-- values in their boxes, whatever they are -/
structure QV (w0 W : World) (x y : Val) (s : Bool) : Prop where
  a : W.heap[w0.heap.size]? = some (.cells #[.int .i64 x.k, .int .i64 x.n, .string x.s] 24 (0, 0))
  b : W.heap[w0.heap.size + 1]? = some (.cells #[.int .i64 y.k, .int .i64 y.n, .string y.s] 24 (0, 0))
  s : W.heap[w0.heap.size + 1 + 1]? = some (.cells #[.int .i64 1, .int .i64 (tn (some s)), .string ⟨#[]⟩] 24 (0, 0))
  r : W.heap[w0.heap.size + 1 + 1 + 1]? = some (.cells #[.int .i64 0, .int .i64 0, .string ⟨#[]⟩] 24 (0, 0))
  bel : Below w0.heap.size w0 W
theorem QV.next {w0 W V : World} {x y : Val} {s : Bool} (h : QV w0 W x y s) (hb : Below W.heap.size W V) : QV w0 V x y s :=
  ⟨(hb.block _ (Array.getElem?_eq_some_iff.1 h.a).1).trans h.a, (hb.block _ (Array.getElem?_eq_some_iff.1 h.b).1).trans h.b, (hb.block _ (Array.getElem?_eq_some_iff.1 h.s).1).trans h.s, (hb.block _ (Array.getElem?_eq_some_iff.1 h.r).1).trans h.r, h.bel.trans (hb.mono h.bel.size)⟩
theorem QV.start (w : World) (x y : Val) (s : Bool) : QV w ((((w.alloc (.cells #[.int .i64 x.k, .int .i64 x.n, .string x.s] 24)).alloc (.cells #[.int .i64 y.k, .int .i64 y.n, .string y.s] 24)).alloc (.cells #[.int .i64 1, .int .i64 (tn (some s)), .string ⟨#[]⟩] 24)).alloc (.cells #[.int .i64 0, .int .i64 0, .string ⟨#[]⟩] 24)) x y s := by
  refine ⟨?_, ?_, ?_, ?_, ?_⟩
  · rw [heap_at, if_neg (by simp; omega), heap_at, if_neg (by simp; omega), heap_at, if_neg (by simp), heap_at, if_pos rfl]
  · rw [heap_at, if_neg (by simp), heap_at, if_neg (by simp), heap_at, if_pos (by simp)]
  · rw [heap_at, if_neg (by simp), heap_at, if_pos (by simp)]
  · rw [heap_at, if_pos (by simp)]
  · exact (alloc2_below w _ _).trans ((alloc2_below _ _ _).mono (alloc2_below w _ _).size)
/-- the fault's block beside a store into another one -/
theorem fault_set3 {w : World} {N b : Nat} {p : Int} (h : w.heap[N]? = some (.cells (newCells 22 p) 53 (0, 0))) (hne : b ≠ N) (x y z : Value) : (((w.setCell ⟨b, 0, none⟩ x).setCell ⟨b, 1, none⟩ y).setCell ⟨b, 2, none⟩ z).heap[N]? = some (.cells (newCells 22 p) 53 (0, 0)) := by
  simp [World.setCell, Array.getElem?_modify, hne, h]
def NwB (p : Int) (w : World) (e : Ending) (w' : World) : Prop := ∃ N : Nat, e = .returned (.iface 48 (.pointer (some ⟨N, 0, none⟩))) ∧ w'.heap[N]? = some (.cells (newCells 22 p) 53 (0, 0)) ∧ Below w.heap.size w w' ∧ w.heap.size ≤ N
theorem new22 (p : Int) (w : World) : Calls Tryz.prog 23 #[.int .i64 22, .int .i64 p] w (NwB p w) := by
  go_enter Tryz.func23, Tryz.ntmps23
  go_wp2
  go_ret
  exact ⟨_, rfl, heap_alloc_new _ _, alloc_below _ _, Nat.le_refl _⟩
set_option maxRecDepth 100000 in
set_option maxHeartbeats 4000000 in
theorem prevail_badA (x y : Val) (hx : isT x = false) (s : Bool) (w : World) : Calls Tryz.prog 20 #[.agg #[.int .i64 x.k, .int .i64 x.n, .string x.s], .agg #[.int .i64 y.k, .int .i64 y.n, .string y.s], .agg #[.int .i64 1, .int .i64 (tn (some s)), .string ⟨#[]⟩]] w (TrB 0 w) := by
  have HP := Lib.hid (QV.start w x y s)
  have TA := Lib.hid (isTruth_any x)
  rw [hx] at TA
  unfold Val.v at TA
  have NW := Lib.hid (new22 0)
  obtain ⟨k, n, t⟩ := x
  obtain ⟨j, m, u⟩ := y
  simp only at TA HP ⊢
  clear hx
  go_enter Tryz.func20, Tryz.ntmps20
  go_wp2_with (first
    | (go_at_call 22; (with_reducible refine (TA.out _).mono ?_); rintro e w2 ⟨rfl, hb⟩
       have HP := Lib.hid (HP.out.next hb)
       clear hb)
    | (go_at_call 23; (with_reducible refine (NW.out _).mono ?_); rintro e w3 ⟨N, rfl, hN, hb, hge⟩
       have HN := Lib.hid hN
       have HG := Lib.hid (Nat.lt_of_lt_of_le (Array.getElem?_eq_some_iff.1 HP.out.r).1 hge)
       have HP := Lib.hid (HP.out.next hb)
       obtain ⟨r0, r1, r2⟩ := box3 HP.out.r
       have z0 := frozen3 HP.out.r 0
       have z1 := frozen3 HP.out.r 1
       have z2 := frozen3 HP.out.r 2
       clear hb hN hge))
  exact bodyPost_ret (v := .tuple #[.agg #[.int .i64 0, .int .i64 0, .string ⟨#[]⟩], .iface 48 (.pointer (some ⟨N, 0, none⟩))]) (by simp [results, Tryz.results20, go_sem, r0, r1, r2]) rfl ⟨N, rfl, fault_set3 HN.out (by have := HG.out; omega) _ _ _, set3_below0 HP.out.bel (by omega) _ _ _⟩
set_option maxRecDepth 100000 in
set_option maxHeartbeats 4000000 in
theorem prevail_badB (x y : Val) (hx : isT x = true) (hy : isT y = false) (s : Bool) (w : World) : Calls Tryz.prog 20 #[.agg #[.int .i64 x.k, .int .i64 x.n, .string x.s], .agg #[.int .i64 y.k, .int .i64 y.n, .string y.s], .agg #[.int .i64 1, .int .i64 (tn (some s)), .string ⟨#[]⟩]] w (TrB 1 w) := by
  have HP := Lib.hid (QV.start w x y s)
  have TA := Lib.hid (isTruth_any x)
  have TB := Lib.hid (isTruth_any y)
  rw [hx] at TA
  rw [hy] at TB
  unfold Val.v at TA TB
  have NW := Lib.hid (new22 1)
  obtain ⟨k, n, t⟩ := x
  obtain ⟨j, m, u⟩ := y
  simp only at TA TB HP ⊢
  clear hx hy
  go_enter Tryz.func20, Tryz.ntmps20
  go_wp2_with (first
    | (go_at_call 22; (with_reducible refine (TA.out _).mono ?_); rintro e w2 ⟨rfl, hb⟩
       have HP := Lib.hid (HP.out.next hb)
       obtain ⟨b0, b1, b2⟩ := box3 HP.out.b
       clear hb)
    | (go_at_call 22; (with_reducible refine (TB.out _).mono ?_); rintro e w4 ⟨rfl, hb⟩
       have HP := Lib.hid (HP.out.next hb)
       clear hb)
    | (go_at_call 23; (with_reducible refine (NW.out _).mono ?_); rintro e w3 ⟨N, rfl, hN, hb, hge⟩
       have HN := Lib.hid hN
       have HG := Lib.hid (Nat.lt_of_lt_of_le (Array.getElem?_eq_some_iff.1 HP.out.r).1 hge)
       have HP := Lib.hid (HP.out.next hb)
       obtain ⟨r0, r1, r2⟩ := box3 HP.out.r
       have z0 := frozen3 HP.out.r 0
       have z1 := frozen3 HP.out.r 1
       have z2 := frozen3 HP.out.r 2
       clear hb hN hge))
  exact bodyPost_ret (v := .tuple #[.agg #[.int .i64 0, .int .i64 0, .string ⟨#[]⟩], .iface 48 (.pointer (some ⟨N, 0, none⟩))]) (by simp [results, Tryz.results20, go_sem, r0, r1, r2]) rfl ⟨N, rfl, fault_set3 HN.out (by have := HG.out; omega) _ _ _, set3_below0 HP.out.bel (by omega) _ _ _⟩
/-- the two values of And and Or in their boxes -/
structure RV2 (w0 W : World) (x y : Val) : Prop where
  a : W.heap[w0.heap.size]? = some (.cells #[.int .i64 x.k, .int .i64 x.n, .string x.s] 24 (0, 0))
  b : W.heap[w0.heap.size + 1]? = some (.cells #[.int .i64 y.k, .int .i64 y.n, .string y.s] 24 (0, 0))
  r : W.heap[w0.heap.size + 1 + 1]? = some (.cells #[.int .i64 0, .int .i64 0, .string ⟨#[]⟩] 24 (0, 0))
  bel : Below w0.heap.size w0 W
theorem RV2.next {w0 W V : World} {x y : Val} (h : RV2 w0 W x y) (hb : Below W.heap.size W V) : RV2 w0 V x y :=
  ⟨(hb.block _ (Array.getElem?_eq_some_iff.1 h.a).1).trans h.a, (hb.block _ (Array.getElem?_eq_some_iff.1 h.b).1).trans h.b, (hb.block _ (Array.getElem?_eq_some_iff.1 h.r).1).trans h.r, h.bel.trans (hb.mono h.bel.size)⟩
theorem RV2.start (w : World) (x y : Val) : RV2 w (((w.alloc (.cells #[.int .i64 x.k, .int .i64 x.n, .string x.s] 24)).alloc (.cells #[.int .i64 y.k, .int .i64 y.n, .string y.s] 24)).alloc (.cells #[.int .i64 0, .int .i64 0, .string ⟨#[]⟩] 24)) x y := by
  refine ⟨?_, ?_, ?_, ?_⟩
  · rw [heap_at, if_neg (by simp; omega), heap_at, if_neg (by simp), heap_at, if_pos rfl]
  · rw [heap_at, if_neg (by simp), heap_at, if_pos (by simp)]
  · rw [heap_at, if_pos (by simp)]
  · exact (alloc2_below w _ _).trans ((alloc_below _ _).mono (alloc2_below w _ _).size)
/-- prevail refuses behind the boxes -/
theorem TrB.bel {p : Int} {w w' : World} {e : Ending} (h : TrB p w e w') : Below w.heap.size w w' := by obtain ⟨_, _, _, hb⟩ := h; exact hb
def TrC (p : Int) (w : World) (e : Ending) (w' : World) : Prop := ∃ N : Nat, e = .returned (.tuple #[.agg #[.int .i64 0, .int .i64 0, .string ⟨#[]⟩], .iface 48 (.pointer (some ⟨N, 0, none⟩))]) ∧ w'.heap[N]? = some (.cells (newCells 22 p) 53 (0, 0)) ∧ Below w.heap.size w w' ∧ ∀ b, (∃ x y z t f, w.heap[b]? = some (.cells #[x, y, z] t f)) → b ≠ N
theorem TrB.apart {p : Int} {w w' : World} {e : Ending} (h : TrB p w e w') : TrC p w e w' := by
  obtain ⟨N, he, hN, hb⟩ := h
  refine ⟨N, he, hN, hb, ?_⟩
  rintro b ⟨x, y, z, t, f, hx⟩ rfl
  have := (hb.block _ (Array.getElem?_eq_some_iff.1 hx).1).trans hx
  rw [hN] at this
  simp [newCells] at this
set_option maxRecDepth 100000 in
set_option maxHeartbeats 4000000 in
theorem and_core (x y : Val) (p : Int) (HP : Hid (∀ w, Calls Tryz.prog 20 #[.agg #[.int .i64 x.k, .int .i64 x.n, .string x.s], .agg #[.int .i64 y.k, .int .i64 y.n, .string y.s], .agg #[.int .i64 1, .int .i64 (tn (some false)), .string ⟨#[]⟩]] w (TrC p w))) (w : World) :
    Calls Tryz.prog 6 #[.agg #[.int .i64 x.k, .int .i64 x.n, .string x.s], .agg #[.int .i64 y.k, .int .i64 y.n, .string y.s]] w (TrB p w) := by
  have HA := Lib.hid (RV2.start w x y)
  obtain ⟨k, n, t⟩ := x
  obtain ⟨j, m, u⟩ := y
  simp only at HP HA ⊢
  go_enter Tryz.func6, Tryz.ntmps6
  go_wp2
  go_region_law (first
    | (go_simp; go_at_call 21; refine (truth_nop _).mono ?_; rintro e w2 ⟨rfl, hb⟩
       have HA := Lib.hid (HA.out.next (((drew_below _)).trans hb))
       obtain ⟨a0, a1, a2⟩ := box3 HA.out.a
       obtain ⟨b0, b1, b2⟩ := box3 HA.out.b
       clear hb)
    | (go_simp; go_at_call 20; refine (HP.out _).mono ?_; rintro e w3 ⟨N, rfl, hN, hb, hap⟩
       have HN := Lib.hid hN
       have HG := Lib.hid (hap _ ⟨_, _, _, _, _, HA.out.r⟩)
       have HA := Lib.hid (HA.out.next hb)
       obtain ⟨r0, r1, r2⟩ := box3 HA.out.r
       have z0 := frozen3 HA.out.r 0
       have z1 := frozen3 HA.out.r 1
       have z2 := frozen3 HA.out.r 2
       have HB := Lib.hid HA.out.bel
       clear hb hN hap))
  all_goals
    go_wp2_with fail
    exact bodyPost_ret (v := .tuple #[.agg #[.int .i64 0, .int .i64 0, .string ⟨#[]⟩], .iface 48 (.pointer (some ⟨N, 0, none⟩))]) (by simp [results, Tryz.results6, go_sem, r0, r1, r2]) rfl ⟨N, rfl, fault_set3 HN.out HG.out _ _ _, set3_below0 HB.out (by omega) _ _ _⟩
set_option maxRecDepth 100000 in
set_option maxHeartbeats 4000000 in
theorem or_core (x y : Val) (p : Int) (HP : Hid (∀ w, Calls Tryz.prog 20 #[.agg #[.int .i64 x.k, .int .i64 x.n, .string x.s], .agg #[.int .i64 y.k, .int .i64 y.n, .string y.s], .agg #[.int .i64 1, .int .i64 (tn (some true)), .string ⟨#[]⟩]] w (TrC p w))) (w : World) :
    Calls Tryz.prog 7 #[.agg #[.int .i64 x.k, .int .i64 x.n, .string x.s], .agg #[.int .i64 y.k, .int .i64 y.n, .string y.s]] w (TrB p w) := by
  have HA := Lib.hid (RV2.start w x y)
  obtain ⟨k, n, t⟩ := x
  obtain ⟨j, m, u⟩ := y
  simp only at HP HA ⊢
  go_enter Tryz.func7, Tryz.ntmps7
  go_wp2
  go_region_law (first
    | (go_simp; go_at_call 21; refine (truth_yep _).mono ?_; rintro e w2 ⟨rfl, hb⟩
       have HA := Lib.hid (HA.out.next (((drew_below _)).trans hb))
       obtain ⟨a0, a1, a2⟩ := box3 HA.out.a
       obtain ⟨b0, b1, b2⟩ := box3 HA.out.b
       clear hb)
    | (go_simp; go_at_call 20; refine (HP.out _).mono ?_; rintro e w3 ⟨N, rfl, hN, hb, hap⟩
       have HN := Lib.hid hN
       have HG := Lib.hid (hap _ ⟨_, _, _, _, _, HA.out.r⟩)
       have HA := Lib.hid (HA.out.next hb)
       obtain ⟨r0, r1, r2⟩ := box3 HA.out.r
       have z0 := frozen3 HA.out.r 0
       have z1 := frozen3 HA.out.r 1
       have z2 := frozen3 HA.out.r 2
       have HB := Lib.hid HA.out.bel
       clear hb hN hap))
  all_goals
    go_wp2_with fail
    exact bodyPost_ret (v := .tuple #[.agg #[.int .i64 0, .int .i64 0, .string ⟨#[]⟩], .iface 48 (.pointer (some ⟨N, 0, none⟩))]) (by simp [results, Tryz.results7, go_sem, r0, r1, r2]) rfl ⟨N, rfl, fault_set3 HN.out HG.out _ _ _, set3_below0 HB.out (by omega) _ _ _⟩
/-- a value's truth, if it is one -/
def tO (x : Val) : Option T3 := if isT x = true then (if x.k = 0 then some none else some (some (decide (x.n = 1)))) else none
theorem tO_some {x : Val} {t : T3} (h : tO x = some t) : x = ⟨tk t, tn t, ⟨#[]⟩⟩ := by
  obtain ⟨k, n, s⟩ := x
  unfold tO at h
  rw [isT_form] at h
  split at h
  · rename_i hh
    have hh := of_decide_eq_true hh
    rcases hh with ⟨rfl, rfl, rfl⟩ | ⟨rfl, rfl, rfl⟩ | ⟨rfl, rfl, rfl⟩
    · simp at h; subst h; rfl
    · simp at h; subst h; rfl
    · simp at h; subst h; rfl
  · cases h
theorem tO_none {x : Val} (h : tO x = none) : isT x = false := by
  unfold tO at h
  split at h
  · split at h <;> cases h
  · rename_i hh; simpa using hh
def ti : Option T3 → Int
  | none => -2
  | some none => -1
  | some (some b) => if b then 1 else 0
def o2 (f : T3 → T3 → T3) : Option T3 → Option T3 → Option T3
  | some a, some b => some (f a b)
  | _, _ => none
def ov : Option T3 → T3
  | none => none
  | some t => t
set_option maxRecDepth 100000 in
set_option maxHeartbeats 4000000 in
theorem not_bad (x : Val) (hx : isT x = false) (w : World) : Calls Tryz.prog 8 #[.agg #[.int .i64 x.k, .int .i64 x.n, .string x.s]] w (TrB 0 w) := by
  have TA := Lib.hid (isTruth_any x)
  rw [hx] at TA
  unfold Val.v at TA
  obtain ⟨k, n, s⟩ := x
  simp only at TA ⊢
  have NW := Lib.hid (new22 0)
  have HX := Lib.hid (show ((w.alloc (.cells #[.int .i64 k, .int .i64 n, .string s] 24)).alloc (.cells #[.int .i64 0, .int .i64 0, .string ⟨#[]⟩] 24)).heap[w.heap.size + 1]? = some (.cells #[.int .i64 0, .int .i64 0, .string ⟨#[]⟩] 24 (0, 0)) by rw [heap_at, if_pos (by simp)])
  have HB := Lib.hid (alloc2_below w (.cells #[.int .i64 k, .int .i64 n, .string s] 24) (.cells #[.int .i64 0, .int .i64 0, .string ⟨#[]⟩] 24))
  clear hx
  go_enter Tryz.func8, Tryz.ntmps8
  go_wp2_with (first
    | (go_at_call 22; (with_reducible refine (TA.out _).mono ?_); rintro e w2 ⟨rfl, hb⟩
       have HX := Lib.hid ((hb.block _ (Array.getElem?_eq_some_iff.1 HX.out).1).trans HX.out)
       have HB := Lib.hid (HB.out.trans (hb.mono HB.out.size))
       clear hb)
    | (go_at_call 23; (with_reducible refine (NW.out _).mono ?_); rintro e w3 ⟨N, rfl, hN, hb, hge⟩
       have HN := Lib.hid hN
       have HG := Lib.hid (Nat.lt_of_lt_of_le (Array.getElem?_eq_some_iff.1 HX.out).1 hge)
       have HX := Lib.hid ((hb.block _ (Array.getElem?_eq_some_iff.1 HX.out).1).trans HX.out)
       have HB := Lib.hid (HB.out.trans (hb.mono HB.out.size))
       obtain ⟨r0, r1, r2⟩ := box3 HX.out
       have z0 := frozen3 HX.out 0
       have z1 := frozen3 HX.out 1
       have z2 := frozen3 HX.out 2
       clear hb hN hge))
  exact bodyPost_ret (v := .tuple #[.agg #[.int .i64 0, .int .i64 0, .string ⟨#[]⟩], .iface 48 (.pointer (some ⟨N, 0, none⟩))]) (by simp [results, Tryz.results8, go_sem, r0, r1, r2]) rfl ⟨N, rfl, fault_set3 HN.out (by have := HG.out; omega) _ _ _, set3_below0 HB.out (by omega) _ _ _⟩
set_option maxRecDepth 100000 in
set_option maxHeartbeats 4000000 in
theorem refTruth_any (x : Val) (hl : x.s.size ≤ 9223372036854775807) (w : World) : Calls Tryz.prog 9 #[.agg #[.int .i64 x.k, .int .i64 x.n, .string x.s]] w (Ans (.int .i64 (ti (tO x))) w) := by
  have RR := Lib.hid (refRight_any x hl)
  cases hO : tO x with
  | some t =>
    have hx := tO_some hO
    subst hx
    have hr : rightB ⟨tk t, tn t, ⟨#[]⟩⟩ = true := by
      unfold rightB
      rw [isT_tv]
      cases t <;> rfl
    rw [hr] at RR
    clear hr hO hl
    have HB := Lib.hid (alloc_below w (.cells #[.int .i64 (tk t), .int .i64 (tn t), .string ⟨#[]⟩] 24))
    have HX := Lib.hid (heap_alloc_new w (.cells #[.int .i64 (tk t), .int .i64 (tn t), .string ⟨#[]⟩] 24))
    rcases t with _ | _ | _
    all_goals
      simp only [tk, tn] at RR HB HX ⊢
      go_enter Tryz.func9, Tryz.ntmps9
      go_wp2_with (go_at_call 24; refine (RR.out _).mono ?_; rintro e w2 ⟨rfl, hb⟩; obtain ⟨x0, x1, x2⟩ := box3 ((hb.block _ (by simp)).trans HX.out); have HB := Lib.hid (HB.out.trans (hb.mono HB.out.size)); clear hb)
      go_ret
      exact ⟨rfl, HB.out⟩
  | none =>
    have hf := tO_none hO
    obtain ⟨k, n, s⟩ := x
    simp only at RR hl ⊢
    have HB := Lib.hid (alloc_below w (.cells #[.int .i64 k, .int .i64 n, .string s] 24))
    have HX := Lib.hid (heap_alloc_new w (.cells #[.int .i64 k, .int .i64 n, .string s] 24))
    by_cases hk : k = 0 ∨ k = 1
    · have hr : rightB ⟨k, n, s⟩ = false := by
        unfold rightB
        rw [if_pos hk, hf]
      rw [hr] at RR
      clear hr hO hf hl
      rcases hk with rfl | rfl
      all_goals
        go_enter Tryz.func9, Tryz.ntmps9
        go_wp2_with (go_at_call 24; refine (RR.out _).mono ?_; rintro e w2 ⟨rfl, hb⟩; obtain ⟨x0, x1, x2⟩ := box3 ((hb.block _ (by simp)).trans HX.out); have HB := Lib.hid (HB.out.trans (hb.mono HB.out.size)); clear hb)
        go_ret
        exact ⟨rfl, HB.out⟩
    · have h0 : (k == 0) = false := beq_false_of_ne (fun e => hk (.inl e))
      have h1 : (k == 1) = false := beq_false_of_ne (fun e => hk (.inr e))
      have g0 : (k != 0) = true := by simp [bne, h0]
      have g1 : (k != 1) = true := by simp [bne, h1]
      clear hk hf hO hl
      generalize rightB ⟨k, n, s⟩ = r at RR
      cases r
      all_goals
        go_enter Tryz.func9, Tryz.ntmps9
        go_wp2_with (go_at_call 24; refine (RR.out _).mono ?_; rintro e w2 ⟨rfl, hb⟩; obtain ⟨x0, x1, x2⟩ := box3 ((hb.block _ (by simp)).trans HX.out); have HB := Lib.hid (HB.out.trans (hb.mono HB.out.size)); clear hb)
        go_ret
        exact ⟨rfl, HB.out⟩
set_option maxRecDepth 100000 in
set_option maxHeartbeats 4000000 in
theorem refAnd_any (a b : Option T3) (w : World) : Calls Tryz.prog 13 #[.int .i64 (ti a), .int .i64 (ti b)] w fun e w' => e = .returned (.int .i64 (ti (o2 andT a b))) ∧ w = w' := by
  rcases a with _ | _ | _ | _ <;> rcases b with _ | _ | _ | _
  all_goals
    simp only [ti, o2, andT, strongT]
    go_enter Tryz.func13, Tryz.ntmps13
    go_wp2
    go_ret
    exact ⟨rfl, rfl⟩
set_option maxRecDepth 100000 in
set_option maxHeartbeats 4000000 in
theorem refOr_any (a b : Option T3) (w : World) : Calls Tryz.prog 14 #[.int .i64 (ti a), .int .i64 (ti b)] w fun e w' => e = .returned (.int .i64 (ti (o2 orT a b))) ∧ w = w' := by
  rcases a with _ | _ | _ | _ <;> rcases b with _ | _ | _ | _
  all_goals
    simp only [ti, o2, orT, strongT]
    go_enter Tryz.func14, Tryz.ntmps14
    go_wp2
    go_ret
    exact ⟨rfl, rfl⟩
set_option maxRecDepth 100000 in
theorem refNot_any (a : Option T3) (w : World) : Calls Tryz.prog 15 #[.int .i64 (ti a)] w fun e w' => e = .returned (.int .i64 (ti (a.map notT))) ∧ w = w' := by
  rcases a with _ | _ | _ | _
  all_goals
    simp only [ti, Option.map, notT]
    go_enter Tryz.func15, Tryz.ntmps15
    go_wp2
    go_ret
    exact ⟨rfl, rfl⟩
set_option maxRecDepth 100000 in
theorem refOf_any (a : Option T3) (w : World) : Calls Tryz.prog 12 #[.int .i64 (ti a)] w (Ans (.agg #[.int .i64 (tk (ov a)), .int .i64 (tn (ov a)), .string ⟨#[]⟩]) w) := by
  rcases a with _ | _ | _ | _
  all_goals
    simp only [ti, ov, tk, tn]
    go_enter Tryz.func12, Tryz.ntmps12
    go_wp2
    exact bodyPost_ret (by simp [results, Tryz.results12, go_sem]) rfl ⟨rfl, alloc_below _ _⟩
end Go.Proofs.YtneppncnccangaaGreatDoor
