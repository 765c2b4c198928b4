/- And, Or, Not of truths. -/
import Derived.Test.YtneppncnccangaaGreatDoorNX
import Derived.Test.YtneppncnccangaaGreatDoorN
namespace Go.Proofs.YtneppncnccangaaGreatDoor
open Go.RowKit
attribute [local go_sem ↓] eqV

/-- a truth: none is not known -/
abbrev T3 := Option Bool
def tk : T3 → Int
  | none => 0
  | some _ => 1
def tn : T3 → Int
  | some true => 1
  | _ => 0
def tv (t : T3) : Value := .agg #[.int .i64 (tk t), .int .i64 (tn t), .string ⟨#[]⟩]
def strongT (s : Bool) (a b : T3) : T3 := if a = some s ∨ b = some s then some s else if a = none then none else b
def andT := strongT false
def orT := strongT true
def notT : T3 → T3
  | none => none
  | some b => some (!b)
structure PV (w0 W : World) (a b : T3) (s : Bool) : Prop where
  a : W.heap[w0.heap.size]? = some (.cells #[.int .i64 (tk a), .int .i64 (tn a), .string ⟨#[]⟩] 24 (0, 0))
  b : W.heap[w0.heap.size + 1]? = some (.cells #[.int .i64 (tk b), .int .i64 (tn b), .string ⟨#[]⟩] 24 (0, 0))
  s : W.heap[w0.heap.size + 1 + 1]? = some (.cells #[.int .i64 1, .int .i64 (tn (some s)), .string ⟨#[]⟩] 24 (0, 0))
  r : W.heap[w0.heap.size + 1 + 1 + 1]? = some (.cells #[.int .i64 0, .int .i64 0, .string ⟨#[]⟩] 24 (0, 0))
  bel : Below w0.heap.size w0 W
theorem PV.next {w0 W V : World} {a b : T3} {s : Bool} (h : PV w0 W a b s) (hb : Below W.heap.size W V) : PV w0 V a b s :=
  ⟨(hb.block _ (Array.getElem?_eq_some_iff.1 h.a).1).trans h.a, (hb.block _ (Array.getElem?_eq_some_iff.1 h.b).1).trans h.b, (hb.block _ (Array.getElem?_eq_some_iff.1 h.s).1).trans h.s, (hb.block _ (Array.getElem?_eq_some_iff.1 h.r).1).trans h.r, h.bel.trans (hb.mono h.bel.size)⟩
theorem PV.start (w : World) (a b : T3) (s : Bool) : PV w ((((w.alloc (.cells #[.int .i64 (tk a), .int .i64 (tn a), .string ⟨#[]⟩] 24)).alloc (.cells #[.int .i64 (tk b), .int .i64 (tn b), .string ⟨#[]⟩] 24)).alloc (.cells #[.int .i64 1, .int .i64 (tn (some s)), .string ⟨#[]⟩] 24)).alloc (.cells #[.int .i64 0, .int .i64 0, .string ⟨#[]⟩] 24)) a b s := by
  refine ⟨?_, ?_, ?_, ?_, ?_⟩
  · rw [heap_at, if_neg (by simp; omega), heap_at, if_neg (by simp; omega), heap_at, if_neg (by simp), heap_at, if_pos rfl]
  · rw [heap_at, if_neg (by simp), heap_at, if_neg (by simp), heap_at, if_pos (by simp)]
  · rw [heap_at, if_neg (by simp), heap_at, if_pos (by simp)]
  · rw [heap_at, if_pos (by simp)]
  · exact (alloc2_below w _ _).trans ((alloc2_below _ _ _).mono (alloc2_below w _ _).size)
theorem isT_tv (t : T3) : isT ⟨tk t, tn t, ⟨#[]⟩⟩ = true := by
  cases t with
  | none => decide
  | some b => cases b <;> decide
theorem isTruth_tv (t : T3) (w : World) : Calls Tryz.prog 22 #[.agg #[.int .i64 (tk t), .int .i64 (tn t), .string ⟨#[]⟩]] w (Ans (.bool true) w) := by
  have := isTruth_any ⟨tk t, tn t, ⟨#[]⟩⟩ w
  rwa [isT_tv] at this
theorem eq_tv (a : T3) (s : Bool) : eqB (tk a) (tn a) ⟨#[]⟩ 1 (tn (some s)) ⟨#[]⟩ = decide (a = some s) := by
  cases a with
  | none => cases s <;> decide
  | some b => cases b <;> cases s <;> decide
theorem eq_none (a : T3) : eqB (tk a) (tn a) ⟨#[]⟩ 0 0 ⟨#[]⟩ = decide (a = none) := by
  cases a with
  | none => decide
  | some b => cases b <;> decide
set_option maxRecDepth 100000 in
set_option maxHeartbeats 4000000 in
theorem prevail_any (a b : T3) (s : Bool) (w : World) : Calls Tryz.prog 20 #[.agg #[.int .i64 (tk a), .int .i64 (tn a), .string ⟨#[]⟩], .agg #[.int .i64 (tk b), .int .i64 (tn b), .string ⟨#[]⟩], .agg #[.int .i64 1, .int .i64 (tn (some s)), .string ⟨#[]⟩]] w
    fun e w' => e = .returned (.tuple #[tv (strongT s a b), .nilIface]) ∧ Below w.heap.size w w' := by
  have HP := Lib.hid (PV.start w a b s)
  have TA := Lib.hid (isTruth_tv a)
  have TB := Lib.hid (isTruth_tv b)
  have HR : Hid (strongT s a b = if a = some s ∨ b = some s then some s else if a = none then none else b) := Lib.hid rfl
  have e1 := eq_tv a s
  have e2 := eq_tv b s
  have e3 := eq_none a
  by_cases h1 : a = some s
  · have HV : Hid (tv (strongT s a b) = .agg #[.int .i64 1, .int .i64 (tn (some s)), .string ⟨#[]⟩]) := Lib.hid (by rw [HR.out, if_pos (.inl h1)]; rfl)
    rw [HV.out]
    rw [decide_eq_true h1] at e1
    clear e2 e3 h1 HV HR
    go_enter Tryz.func20, Tryz.ntmps20
    go_wp2_with (go_at_call 22; first
      | ((with_reducible refine (TA.out _).mono ?_); rintro e w2 ⟨rfl, hb⟩
         have HP := Lib.hid (HP.out.next hb)
         obtain ⟨a0, a1, a2⟩ := box3 HP.out.a
         obtain ⟨b0, b1, b2⟩ := box3 HP.out.b
         clear hb)
      | (with_reducible refine (TB.out _).mono ?_
         rintro e w3 ⟨rfl, hb⟩
         have HP := Lib.hid (HP.out.next hb)
         obtain ⟨a0, a1, a2⟩ := box3 HP.out.a
         obtain ⟨b0, b1, b2⟩ := box3 HP.out.b
         obtain ⟨s0, s1, s2⟩ := box3 HP.out.s
         obtain ⟨r0, r1, r2⟩ := box3 HP.out.r
         have z0 := frozen3 HP.out.r 0
         have z1 := frozen3 HP.out.r 1
         have z2 := frozen3 HP.out.r 2
         have HB := Lib.hid HP.out.bel
         clear hb))
    exact bodyPost_ret (v := .tuple #[.agg #[.int .i64 1, .int .i64 (tn (some s)), .string ⟨#[]⟩], .nilIface]) (by simp [results, Tryz.results20, go_sem, r0, r1, r2]) rfl ⟨rfl, set3_below0 HB.out (by omega) _ _ _⟩
  · rw [decide_eq_false h1] at e1
    by_cases h2 : b = some s
    · have HV : Hid (tv (strongT s a b) = .agg #[.int .i64 1, .int .i64 (tn (some s)), .string ⟨#[]⟩]) := Lib.hid (by rw [HR.out, if_pos (.inr h2)]; rfl)
      rw [HV.out]
      rw [decide_eq_true h2] at e2
      clear e3 h1 h2 HV HR
      go_enter Tryz.func20, Tryz.ntmps20
      go_wp2_with (go_at_call 22; first
        | ((with_reducible refine (TA.out _).mono ?_); rintro e w2 ⟨rfl, hb⟩
           have HP := Lib.hid (HP.out.next hb)
           obtain ⟨a0, a1, a2⟩ := box3 HP.out.a
           obtain ⟨b0, b1, b2⟩ := box3 HP.out.b
           clear hb)
        | (with_reducible refine (TB.out _).mono ?_
           rintro e w3 ⟨rfl, hb⟩
           have HP := Lib.hid (HP.out.next hb)
           obtain ⟨a0, a1, a2⟩ := box3 HP.out.a
           obtain ⟨b0, b1, b2⟩ := box3 HP.out.b
           obtain ⟨s0, s1, s2⟩ := box3 HP.out.s
           obtain ⟨r0, r1, r2⟩ := box3 HP.out.r
           have z0 := frozen3 HP.out.r 0
           have z1 := frozen3 HP.out.r 1
           have z2 := frozen3 HP.out.r 2
           have HB := Lib.hid HP.out.bel
           clear hb))
      exact bodyPost_ret (v := .tuple #[.agg #[.int .i64 1, .int .i64 (tn (some s)), .string ⟨#[]⟩], .nilIface]) (by simp [results, Tryz.results20, go_sem, r0, r1, r2]) rfl ⟨rfl, set3_below0 HB.out (by omega) _ _ _⟩
    · rw [decide_eq_false h2] at e2
      have hor : ¬ (a = some s ∨ b = some s) := fun h => h.elim h1 h2
      by_cases h3 : a = none
      · have HV : Hid (tv (strongT s a b) = .agg #[.int .i64 (tk a), .int .i64 (tn a), .string ⟨#[]⟩]) := Lib.hid (by rw [HR.out, if_neg hor, if_pos h3, h3]; rfl)
        rw [HV.out]
        rw [decide_eq_true h3] at e3
        clear h1 h2 h3 hor HV HR
        go_enter Tryz.func20, Tryz.ntmps20
        go_wp2_with (go_at_call 22; first
          | ((with_reducible refine (TA.out _).mono ?_); rintro e w2 ⟨rfl, hb⟩
             have HP := Lib.hid (HP.out.next hb)
             obtain ⟨a0, a1, a2⟩ := box3 HP.out.a
             obtain ⟨b0, b1, b2⟩ := box3 HP.out.b
             clear hb)
          | (with_reducible refine (TB.out _).mono ?_
             rintro e w3 ⟨rfl, hb⟩
             have HP := Lib.hid (HP.out.next hb)
             obtain ⟨a0, a1, a2⟩ := box3 HP.out.a
             obtain ⟨b0, b1, b2⟩ := box3 HP.out.b
             obtain ⟨s0, s1, s2⟩ := box3 HP.out.s
             obtain ⟨r0, r1, r2⟩ := box3 HP.out.r
             have z0 := frozen3 HP.out.r 0
             have z1 := frozen3 HP.out.r 1
             have z2 := frozen3 HP.out.r 2
             have HB := Lib.hid HP.out.bel
             clear hb))
        exact bodyPost_ret (v := .tuple #[.agg #[.int .i64 (tk a), .int .i64 (tn a), .string ⟨#[]⟩], .nilIface]) (by simp [results, Tryz.results20, go_sem, r0, r1, r2]) rfl ⟨rfl, set3_below0 HB.out (by omega) _ _ _⟩
      · have HV : Hid (tv (strongT s a b) = .agg #[.int .i64 (tk b), .int .i64 (tn b), .string ⟨#[]⟩]) := Lib.hid (by rw [HR.out, if_neg hor, if_neg h3]; rfl)
        rw [HV.out]
        rw [decide_eq_false h3] at e3
        clear h1 h2 h3 hor HV HR
        go_enter Tryz.func20, Tryz.ntmps20
        go_wp2_with (go_at_call 22; first
          | ((with_reducible refine (TA.out _).mono ?_); rintro e w2 ⟨rfl, hb⟩
             have HP := Lib.hid (HP.out.next hb)
             obtain ⟨a0, a1, a2⟩ := box3 HP.out.a
             obtain ⟨b0, b1, b2⟩ := box3 HP.out.b
             clear hb)
          | (with_reducible refine (TB.out _).mono ?_
             rintro e w3 ⟨rfl, hb⟩
             have HP := Lib.hid (HP.out.next hb)
             obtain ⟨a0, a1, a2⟩ := box3 HP.out.a
             obtain ⟨b0, b1, b2⟩ := box3 HP.out.b
             obtain ⟨s0, s1, s2⟩ := box3 HP.out.s
             obtain ⟨r0, r1, r2⟩ := box3 HP.out.r
             have z0 := frozen3 HP.out.r 0
             have z1 := frozen3 HP.out.r 1
             have z2 := frozen3 HP.out.r 2
             have HB := Lib.hid HP.out.bel
             clear hb))
        exact bodyPost_ret (v := .tuple #[.agg #[.int .i64 (tk b), .int .i64 (tn b), .string ⟨#[]⟩], .nilIface]) (by simp [results, Tryz.results20, go_sem, r0, r1, r2]) rfl ⟨rfl, set3_below0 HB.out (by omega) _ _ _⟩
theorem truth_nop (w : World) : Calls Tryz.prog 21 #[.bool false] w (Ans (.agg #[.int .i64 1, .int .i64 (tn (some false)), .string ⟨#[]⟩]) w) := truth_no w
theorem truth_yep (w : World) : Calls Tryz.prog 21 #[.bool true] w (Ans (.agg #[.int .i64 1, .int .i64 (tn (some true)), .string ⟨#[]⟩]) w) := truth_yes w
structure AV (w0 W : World) (a b : T3) : Prop where
  a : W.heap[w0.heap.size]? = some (.cells #[.int .i64 (tk a), .int .i64 (tn a), .string ⟨#[]⟩] 24 (0, 0))
  b : W.heap[w0.heap.size + 1]? = some (.cells #[.int .i64 (tk b), .int .i64 (tn b), .string ⟨#[]⟩] 24 (0, 0))
  r : W.heap[w0.heap.size + 1 + 1]? = some (.cells #[.int .i64 0, .int .i64 0, .string ⟨#[]⟩] 24 (0, 0))
  bel : Below w0.heap.size w0 W
theorem AV.next {w0 W V : World} {a b : T3} (h : AV w0 W a b) (hb : Below W.heap.size W V) : AV w0 V a b :=
  ⟨(hb.block _ (Array.getElem?_eq_some_iff.1 h.a).1).trans h.a, (hb.block _ (Array.getElem?_eq_some_iff.1 h.b).1).trans h.b, (hb.block _ (Array.getElem?_eq_some_iff.1 h.r).1).trans h.r, h.bel.trans (hb.mono h.bel.size)⟩
theorem AV.start (w : World) (a b : T3) : AV w (((w.alloc (.cells #[.int .i64 (tk a), .int .i64 (tn a), .string ⟨#[]⟩] 24)).alloc (.cells #[.int .i64 (tk b), .int .i64 (tn b), .string ⟨#[]⟩] 24)).alloc (.cells #[.int .i64 0, .int .i64 0, .string ⟨#[]⟩] 24)) a b := by
  refine ⟨?_, ?_, ?_, ?_⟩
  · rw [heap_at, if_neg (by simp; omega), heap_at, if_neg (by simp), heap_at, if_pos rfl]
  · rw [heap_at, if_neg (by simp), heap_at, if_pos (by simp)]
  · rw [heap_at, if_pos (by simp)]
  · exact (alloc2_below w _ _).trans ((alloc_below _ _).mono (alloc2_below w _ _).size)
set_option maxRecDepth 100000 in
set_option maxHeartbeats 4000000 in
theorem and_any (a b : T3) (w : World) : Calls Tryz.prog 6 #[.agg #[.int .i64 (tk a), .int .i64 (tn a), .string ⟨#[]⟩], .agg #[.int .i64 (tk b), .int .i64 (tn b), .string ⟨#[]⟩]] w fun e w' => e = .returned (.tuple #[.agg #[.int .i64 (tk (andT a b)), .int .i64 (tn (andT a b)), .string ⟨#[]⟩], .nilIface]) ∧ Below w.heap.size w w' := by
  have HP := Lib.hid (prevail_any a b false)
  have HR : Hid (andT a b = strongT false a b) := Lib.hid rfl
  rw [HR.out]
  have HA := Lib.hid (AV.start w a b)
  unfold tv at HP
  clear HR
  go_enter Tryz.func6, Tryz.ntmps6
  go_wp2
  go_region_law (first
    | (go_simp; go_at_call 21; refine (truth_nop _).mono ?_; rintro e w2 ⟨rfl, hb⟩
       have HA := Lib.hid (HA.out.next (((drew_below _)).trans hb))
       obtain ⟨a0, a1, a2⟩ := box3 HA.out.a
       obtain ⟨b0, b1, b2⟩ := box3 HA.out.b
       clear hb)
    | (go_simp; go_at_call 20; refine (HP.out _).mono ?_; rintro e w3 ⟨rfl, hb⟩
       have HA := Lib.hid (HA.out.next hb)
       obtain ⟨r0, r1, r2⟩ := box3 HA.out.r
       have z0 := frozen3 HA.out.r 0
       have z1 := frozen3 HA.out.r 1
       have z2 := frozen3 HA.out.r 2
       have HB := Lib.hid HA.out.bel
       clear hb))
  all_goals
    go_wp2_with fail
    exact bodyPost_ret (v := .tuple #[.agg #[.int .i64 (tk (strongT false a b)), .int .i64 (tn (strongT false a b)), .string ⟨#[]⟩], .nilIface]) (by simp [results, Tryz.results6, go_sem, r0, r1, r2]) rfl ⟨rfl, set3_below0 HB.out (by omega) _ _ _⟩
set_option maxRecDepth 100000 in
set_option maxHeartbeats 4000000 in
theorem or_any (a b : T3) (w : World) : Calls Tryz.prog 7 #[.agg #[.int .i64 (tk a), .int .i64 (tn a), .string ⟨#[]⟩], .agg #[.int .i64 (tk b), .int .i64 (tn b), .string ⟨#[]⟩]] w fun e w' => e = .returned (.tuple #[.agg #[.int .i64 (tk (orT a b)), .int .i64 (tn (orT a b)), .string ⟨#[]⟩], .nilIface]) ∧ Below w.heap.size w w' := by
  have HP := Lib.hid (prevail_any a b true)
  have HR : Hid (orT a b = strongT true a b) := Lib.hid rfl
  rw [HR.out]
  have HA := Lib.hid (AV.start w a b)
  unfold tv at HP
  clear HR
  go_enter Tryz.func7, Tryz.ntmps7
  go_wp2
  go_region_law (first
    | (go_simp; go_at_call 21; refine (truth_yep _).mono ?_; rintro e w2 ⟨rfl, hb⟩
       have HA := Lib.hid (HA.out.next (((drew_below _)).trans hb))
       obtain ⟨a0, a1, a2⟩ := box3 HA.out.a
       obtain ⟨b0, b1, b2⟩ := box3 HA.out.b
       clear hb)
    | (go_simp; go_at_call 20; refine (HP.out _).mono ?_; rintro e w3 ⟨rfl, hb⟩
       have HA := Lib.hid (HA.out.next hb)
       obtain ⟨r0, r1, r2⟩ := box3 HA.out.r
       have z0 := frozen3 HA.out.r 0
       have z1 := frozen3 HA.out.r 1
       have z2 := frozen3 HA.out.r 2
       have HB := Lib.hid HA.out.bel
       clear hb))
  all_goals
    go_wp2_with fail
    exact bodyPost_ret (v := .tuple #[.agg #[.int .i64 (tk (strongT true a b)), .int .i64 (tn (strongT true a b)), .string ⟨#[]⟩], .nilIface]) (by simp [results, Tryz.results7, go_sem, r0, r1, r2]) rfl ⟨rfl, set3_below0 HB.out (by omega) _ _ _⟩
end Go.Proofs.YtneppncnccangaaGreatDoor
