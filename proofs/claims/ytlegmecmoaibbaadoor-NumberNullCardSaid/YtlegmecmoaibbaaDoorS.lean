/- ValueNots: the law's own body answers true. -/
import Derived.Test.YtlegmecmoaibbaaDoorHB
namespace Go.Proofs.YtlegmecmoaibbaaDoor
open Go.RowKit
attribute [local go_sem ↓] eqV

theorem set3_belowG {w w3 : World} {B b : Nat} (h : Below B w w3) (hb : B ≤ b) (i j k : Nat) (x y z : Value) : Below B w (((w3.setCell ⟨b, i, none⟩ x).setCell ⟨b, j, none⟩ y).setCell ⟨b, k, none⟩ z) :=
  ((h.setCell hb _).setCell hb _).setCell hb _
theorem Held.cast {W : World} {b : Nat} {o o' : Obj} {L : List (Nat × Obj)} (h : Held W ((b, o) :: L)) (e : o = o') : Held W ((b, o') :: L) := e ▸ h
theorem Held.lt {W : World} {L : List (Nat × Obj)} (h : Held W L) : ∀ p ∈ L, p.1 < W.heap.size := fun p hp => (Array.getElem?_eq_some_iff.1 (h p hp)).1
def tb (t : T3) : Obj := .cells #[.int .i64 (tk t), .int .i64 (tn t), .string ⟨#[]⟩] 24 (0, 0)
theorem tbox {W : World} {b : Nat} {t : T3} (h : W.heap[b]? = some (tb t)) : W.cell? ⟨b, 0, none⟩ = some (.int .i64 (tk t)) ∧ W.cell? ⟨b, 1, none⟩ = some (.int .i64 (tn t)) ∧ W.cell? ⟨b, 2, none⟩ = some (.string ⟨#[]⟩) := box3 h
theorem Held.allocT {W : World} {L : List (Nat × Obj)} (h : Held W L) (t : T3) : Held (W.alloc (.cells #[.int .i64 (tk t), .int .i64 (tn t), .string ⟨#[]⟩] 24)) ((W.heap.size, tb t) :: L) := h.alloc (tb t)
/-- three truths in an array -/
def vb (a b c : T3) : Obj := .cells #[.int .i64 (tk a), .int .i64 (tn a), .string ⟨#[]⟩, .int .i64 (tk b), .int .i64 (tn b), .string ⟨#[]⟩, .int .i64 (tk c), .int .i64 (tn c), .string ⟨#[]⟩] 34 (0, 0)
theorem vbox {W : World} {g : Nat} {a b c : T3} (h : W.heap[g]? = some (vb a b c)) : W.cell? ⟨g, 0, none⟩ = some (.int .i64 (tk a)) ∧ W.cell? ⟨g, 1, none⟩ = some (.int .i64 (tn a)) ∧ W.cell? ⟨g, 2, none⟩ = some (.string ⟨#[]⟩) ∧
    W.cell? ⟨g, 3, none⟩ = some (.int .i64 (tk b)) ∧ W.cell? ⟨g, 4, none⟩ = some (.int .i64 (tn b)) ∧ W.cell? ⟨g, 5, none⟩ = some (.string ⟨#[]⟩) ∧
    W.cell? ⟨g, 6, none⟩ = some (.int .i64 (tk c)) ∧ W.cell? ⟨g, 7, none⟩ = some (.int .i64 (tn c)) ∧ W.cell? ⟨g, 8, none⟩ = some (.string ⟨#[]⟩) := by
  unfold vb at h
  simp [World.cell?, h]
/-- which truth a number tells -/
def t3 (n : Int) : T3 := if 0 ≤ n then some (decide (n % 2 = 1)) else none
theorem t3_neg {n : Int} (h : ¬ 0 ≤ n) : t3 n = none := by unfold t3; rw [if_neg h]
theorem t3_pos {n : Int} (h : 0 ≤ n) : tk (t3 n) = 1 ∧ tn (t3 n) = n % 2 := by
  unfold t3
  rw [if_pos h]
  refine ⟨rfl, ?_⟩
  by_cases e : n % 2 = 1
  · rw [decide_eq_true e]; exact e.symm
  · rw [decide_eq_false e]; show (0 : Int) = n % 2; omega
theorem and_comm3 (a b : T3) : andT a b = andT b a := by
  cases a with
  | none => cases b with
    | none => rfl
    | some y => cases y <;> rfl
  | some x => cases b with
    | none => cases x <;> rfl
    | some y => cases x <;> cases y <;> rfl
theorem and_assoc3 (a b c : T3) : andT (andT a b) c = andT a (andT b c) := by
  cases a with
  | none => cases b with
    | none => cases c with
      | none => rfl
      | some z => cases z <;> rfl
    | some y => cases c with
      | none => cases y <;> rfl
      | some z => cases y <;> cases z <;> rfl
  | some x => cases b with
    | none => cases c with
      | none => cases x <;> rfl
      | some z => cases x <;> cases z <;> rfl
    | some y => cases c with
      | none => cases x <;> cases y <;> rfl
      | some z => cases x <;> cases y <;> cases z <;> rfl
theorem not_and3 (a b : T3) : notT (andT a b) = orT (notT a) (notT b) := by
  cases a with
  | none => cases b with
    | none => rfl
    | some y => cases y <;> rfl
  | some x => cases b with
    | none => cases x <;> rfl
    | some y => cases x <;> cases y <;> rfl
theorem not_not3 (a : T3) : notT (notT a) = a := by
  cases a with
  | none => rfl
  | some x => cases x <;> rfl
theorem eq_refl3 (a : T3) : eqB (tk a) (tn a) ⟨#[]⟩ (tk a) (tn a) ⟨#[]⟩ = true := by unfold eqB; simp
theorem known3 (a b : T3) (ha : tk a = 1) (hb : tk b = 1) : tk (andT a b) = 1 := by
  cases a with
  | none => cases ha
  | some x => cases b with
    | none => cases hb
    | some y => cases x <;> cases y <;> rfl
theorem tk_01 (a : T3) : tk a = 0 ∨ tk a = 1 := by
  cases a with
  | none => exact .inl rfl
  | some x => exact .inr rfl
/-- behind the loop's round k -/
def NL (w : World) (n0 n1 n2 : Int) (v4 : Value) (wr : World) : Prop := ∃ k : Nat, k ≤ 3 ∧ v4 = .int .i64 k ∧ Below w.heap.size w wr ∧
  Held wr [(w.heap.size + 1, vb (if 1 ≤ k then t3 n0 else none) (if 2 ≤ k then t3 n1 else none) (if 3 ≤ k then t3 n2 else none)), (w.heap.size, .cells #[.int .i64 n0, .int .i64 n1, .int .i64 n2] 33 (0, 0))]
theorem NL.start (w : World) (n0 n1 n2 : Int) : NL w n0 n1 n2 (.int .i64 0) ((w.alloc (.cells #[.int .i64 n0, .int .i64 n1, .int .i64 n2] 33)).alloc (vb none none none)) := by
  refine ⟨0, by omega, rfl, alloc2_below w _ _, ?_⟩
  have h := ((Held.nil w).alloc (.cells #[.int .i64 n0, .int .i64 n1, .int .i64 n2] 33 (0, 0))).alloc (vb none none none)
  have e : (w.alloc (.cells #[.int .i64 n0, .int .i64 n1, .int .i64 n2] 33 (0, 0))).heap.size = w.heap.size + 1 := by simp
  rw [e] at h
  exact h

set_option maxRecDepth 100000 in
set_option maxHeartbeats 40000000 in
theorem nots_law (n0 n1 n2 : Int) (w : World) (hE : Env w) : Calls Tryd.prog 4 #[.agg #[.int .i64 n0, .int .i64 n1, .int .i64 n2]] w (Ans (.bool true) w) := by
  have HE := Lib.hid hE
  have AL := Lib.hid alive_any
  have HS : Hid (NL w n0 n1 n2 (.int .i64 0) ((w.alloc (.cells #[.int .i64 n0, .int .i64 n1, .int .i64 n2] 33)).alloc (vb none none none))) := Lib.hid (NL.start w n0 n1 n2)
  clear hE
  go_enter Tryd.func4, Tryd.ntmps4
  go_wp2_with fail
  go_loopw [4] (fun v4 wr => NL w n0 n1 n2 v4 wr) (fun v4 _ => (3 - intOf v4).toNat)
  case atStart => exact HS.out
  case round =>
    obtain ⟨k, hk, rfl, hbel, hheld⟩ := hrel
    have HL := Lib.hid hheld
    have HB := Lib.hid hbel
    clear hheld hbel
    have hk4 : k = 0 ∨ k = 1 ∨ k = 2 ∨ k = 3 := by omega
    clear hk
    rcases hk4 with rfl | rfl | rfl | rfl
    · obtain ⟨p0, p1, p2⟩ := box3 (HL.out (w.heap.size, .cells #[.int .i64 n0, .int .i64 n1, .int .i64 n2] 33 (0, 0)) (by simp))
      have hv := HL.out _ (List.mem_cons_self ..)
      obtain ⟨c0, c1, c2, c3, c4, c5, c6, c7, c8⟩ := vbox hv
      have z0 := frozen3 hv 0
      have z1 := frozen3 hv 1
      have z2 := frozen3 hv 2
      clear hv
      by_cases h : 0 ≤ n0
      · have HV := Lib.hid (t3_pos h)
        have h2 : 0 ≤ n0 % 2 := by omega
        have h3 : n0 % 2 ≤ 1 := by omega
        go_wp2_with fail
        go_roundw
        case rel =>
          refine ⟨1, by omega, by first | rfl | go_num, set3_belowG HB.out (by omega) _ _ _ _ _ _, ?_⟩
          refine Held.cast (HL.out.set3 (by simp) 0 1 2 (.int .i64 1) (.int .i64 (n0 % 2)) (.string ⟨#[]⟩)) ?_
          simp [vb, HV.out.1, HV.out.2]
        case measure => simp [intOf]
      · have HN : Hid (t3 n0 = none) := Lib.hid (t3_neg h)
        go_wp2_with fail
        go_roundw
        case rel => exact ⟨1, by omega, by first | rfl | go_num, HB.out, by simpa [HN.out] using HL.out⟩
        case measure => simp [intOf]
    · obtain ⟨p0, p1, p2⟩ := box3 (HL.out (w.heap.size, .cells #[.int .i64 n0, .int .i64 n1, .int .i64 n2] 33 (0, 0)) (by simp))
      have hv := HL.out _ (List.mem_cons_self ..)
      obtain ⟨c0, c1, c2, c3, c4, c5, c6, c7, c8⟩ := vbox hv
      have z0 := frozen3 hv 3
      have z1 := frozen3 hv 4
      have z2 := frozen3 hv 5
      clear hv
      by_cases h : 0 ≤ n1
      · have HV := Lib.hid (t3_pos h)
        have h2 : 0 ≤ n1 % 2 := by omega
        have h3 : n1 % 2 ≤ 1 := by omega
        go_wp2_with fail
        go_roundw
        case rel =>
          refine ⟨2, by omega, by first | rfl | go_num, set3_belowG HB.out (by omega) _ _ _ _ _ _, ?_⟩
          refine Held.cast (HL.out.set3 (by simp) 3 4 5 (.int .i64 1) (.int .i64 (n1 % 2)) (.string ⟨#[]⟩)) ?_
          simp [vb, HV.out.1, HV.out.2]
        case measure => simp [intOf]
      · have HN : Hid (t3 n1 = none) := Lib.hid (t3_neg h)
        go_wp2_with fail
        go_roundw
        case rel => exact ⟨2, by omega, by first | rfl | go_num, HB.out, by simpa [HN.out] using HL.out⟩
        case measure => simp [intOf]
    · obtain ⟨p0, p1, p2⟩ := box3 (HL.out (w.heap.size, .cells #[.int .i64 n0, .int .i64 n1, .int .i64 n2] 33 (0, 0)) (by simp))
      have hv := HL.out _ (List.mem_cons_self ..)
      obtain ⟨c0, c1, c2, c3, c4, c5, c6, c7, c8⟩ := vbox hv
      have z0 := frozen3 hv 6
      have z1 := frozen3 hv 7
      have z2 := frozen3 hv 8
      clear hv
      by_cases h : 0 ≤ n2
      · have HV := Lib.hid (t3_pos h)
        have h2 : 0 ≤ n2 % 2 := by omega
        have h3 : n2 % 2 ≤ 1 := by omega
        go_wp2_with fail
        go_roundw
        case rel =>
          refine ⟨3, by omega, by first | rfl | go_num, set3_belowG HB.out (by omega) _ _ _ _ _ _, ?_⟩
          refine Held.cast (HL.out.set3 (by simp) 6 7 8 (.int .i64 1) (.int .i64 (n2 % 2)) (.string ⟨#[]⟩)) ?_
          simp [vb, HV.out.1, HV.out.2]
        case measure => simp [intOf]
      · have HN : Hid (t3 n2 = none) := Lib.hid (t3_neg h)
        go_wp2_with fail
        go_roundw
        case rel => exact ⟨3, by omega, by first | rfl | go_num, HB.out, by simpa [HN.out] using HL.out⟩
        case measure => simp [intOf]
    · have HL : Hid (Held wr [(w.heap.size + 1, vb (t3 n0) (t3 n1) (t3 n2)), (w.heap.size, .cells #[.int .i64 n0, .int .i64 n1, .int .i64 n2] 33 (0, 0))]) := Lib.hid (by simpa using HL.out)
      obtain ⟨c0, c1, c2, c3, c4, c5, c6, c7, c8⟩ := vbox (HL.out (w.heap.size + 1, vb (t3 n0) (t3 n1) (t3 n2)) (by simp))
      go_wp2_with fail
      go_at_call 16
      ((with_reducible refine (and_any (t3 n0) (t3 n1) _).mono ?_); rintro e w1 ⟨rfl, hb⟩)
      have HB := Lib.hid (HB.out.trans ((hb.trans ((alloc_below _ (.cells #[.int .i64 (tk (andT (t3 n0) (t3 n1))), .int .i64 (tn (andT (t3 n0) (t3 n1))), .string ⟨#[]⟩] 24)).mono hb.size)).mono HB.out.size))
      have HL := Lib.hid ((HL.out.next hb).allocT (andT (t3 n0) (t3 n1)))
      clear hb c0 c1 c2 c3 c4 c5 c6 c7 c8 
      obtain ⟨c0, c1, c2, c3, c4, c5, c6, c7, c8⟩ := vbox (HL.out (w.heap.size + 1, vb (t3 n0) (t3 n1) (t3 n2)) (by simp))
      go_wp2_with fail
      go_at_call 16
      ((with_reducible refine (and_any (t3 n1) (t3 n0) _).mono ?_); rintro e w2 ⟨rfl, hb⟩)
      have HB := Lib.hid (HB.out.trans ((hb.trans ((alloc_below _ (.cells #[.int .i64 (tk (andT (t3 n1) (t3 n0))), .int .i64 (tn (andT (t3 n1) (t3 n0))), .string ⟨#[]⟩] 24)).mono hb.size)).mono HB.out.size))
      have HL := Lib.hid ((HL.out.next hb).allocT (andT (t3 n1) (t3 n0)))
      clear hb c0 c1 c2 c3 c4 c5 c6 c7 c8 
      obtain ⟨c0, c1, c2, c3, c4, c5, c6, c7, c8⟩ := vbox (HL.out (w.heap.size + 1, vb (t3 n0) (t3 n1) (t3 n2)) (by simp))
      obtain ⟨ba0, ba1, ba2⟩ := tbox (HL.out (w1.heap.size, tb (andT (t3 n0) (t3 n1))) (by simp))
      go_wp2_with fail
      go_at_call 16
      ((with_reducible refine (and_any (andT (t3 n0) (t3 n1)) (t3 n2) _).mono ?_); rintro e w3 ⟨rfl, hb⟩)
      have HB := Lib.hid (HB.out.trans ((hb.trans ((alloc_below _ (.cells #[.int .i64 (tk (andT (andT (t3 n0) (t3 n1)) (t3 n2))), .int .i64 (tn (andT (andT (t3 n0) (t3 n1)) (t3 n2))), .string ⟨#[]⟩] 24)).mono hb.size)).mono HB.out.size))
      have HL := Lib.hid ((HL.out.next hb).allocT (andT (andT (t3 n0) (t3 n1)) (t3 n2)))
      clear hb c0 c1 c2 c3 c4 c5 c6 c7 c8 ba0 ba1 ba2
      obtain ⟨c0, c1, c2, c3, c4, c5, c6, c7, c8⟩ := vbox (HL.out (w.heap.size + 1, vb (t3 n0) (t3 n1) (t3 n2)) (by simp))
      go_wp2_with fail
      go_at_call 16
      ((with_reducible refine (and_any (t3 n1) (t3 n2) _).mono ?_); rintro e w4 ⟨rfl, hb⟩)
      have HB := Lib.hid (HB.out.trans ((hb.trans ((alloc_below _ (.cells #[.int .i64 (tk (andT (t3 n1) (t3 n2))), .int .i64 (tn (andT (t3 n1) (t3 n2))), .string ⟨#[]⟩] 24)).mono hb.size)).mono HB.out.size))
      have HT := Lib.hid (HL.out.next hb).lt
      have HW : Hid (w.heap.size ≤ w4.heap.size) := Lib.hid (Nat.le_of_lt (HT.out (w.heap.size, .cells #[.int .i64 n0, .int .i64 n1, .int .i64 n2] 33 (0, 0)) (by simp)))
      have HL := Lib.hid ((HL.out.next hb).allocT (andT (t3 n1) (t3 n2)))
      clear hb c0 c1 c2 c3 c4 c5 c6 c7 c8 
      obtain ⟨c0, c1, c2, c3, c4, c5, c6, c7, c8⟩ := vbox (HL.out (w.heap.size + 1, vb (t3 n0) (t3 n1) (t3 n2)) (by simp))
      obtain ⟨bd0, bd1, bd2⟩ := tbox (HL.out (w4.heap.size, tb (andT (t3 n1) (t3 n2))) (by simp))
      go_wp2_with fail
      go_at_call 16
      ((with_reducible refine (and_any (t3 n0) (andT (t3 n1) (t3 n2)) _).mono ?_); rintro e w5 ⟨rfl, hb⟩)
      have HL := Lib.hid (HL.out.next hb)
      have hv := HL.out _ (List.mem_cons_self ..)
      obtain ⟨q0, q1, q2⟩ := tbox hv
      have z0 := frozen3 hv 0
      have z1 := frozen3 hv 1
      have z2 := frozen3 hv 2
      clear hv
      have HB := Lib.hid (set3_below0 (HB.out.trans (hb.mono HB.out.size)) HW.out (.int .i64 (tk (andT (t3 n0) (andT (t3 n1) (t3 n2))))) (.int .i64 (tn (andT (t3 n0) (andT (t3 n1) (t3 n2))))) (.string ⟨#[]⟩))
      have HL := Lib.hid (Held.cast (HL.out.set3 (fun p hp => Nat.ne_of_lt (HT.out p hp)) 0 1 2 (.int .i64 (tk (andT (t3 n0) (andT (t3 n1) (t3 n2))))) (.int .i64 (tn (andT (t3 n0) (andT (t3 n1) (t3 n2))))) (.string ⟨#[]⟩)) (show _ = tb (andT (t3 n0) (andT (t3 n1) (t3 n2))) from rfl))
      clear hb c0 c1 c2 c3 c4 c5 c6 c7 c8 bd0 bd1 bd2
      obtain ⟨c0, c1, c2, c3, c4, c5, c6, c7, c8⟩ := vbox (HL.out (w.heap.size + 1, vb (t3 n0) (t3 n1) (t3 n2)) (by simp))
      obtain ⟨ba0, ba1, ba2⟩ := tbox (HL.out (w1.heap.size, tb (andT (t3 n0) (t3 n1))) (by simp))
      go_wp2_with fail
      go_at_call 17
      ((with_reducible refine (not_any (andT (t3 n0) (t3 n1)) _).mono ?_); rintro e w6 ⟨rfl, hb⟩)
      have HB := Lib.hid (HB.out.trans ((hb.trans ((alloc_below _ (.cells #[.int .i64 (tk (notT (andT (t3 n0) (t3 n1)))), .int .i64 (tn (notT (andT (t3 n0) (t3 n1)))), .string ⟨#[]⟩] 24)).mono hb.size)).mono HB.out.size))
      have HL := Lib.hid ((HL.out.next hb).allocT (notT (andT (t3 n0) (t3 n1))))
      clear hb c0 c1 c2 c3 c4 c5 c6 c7 c8 ba0 ba1 ba2
      obtain ⟨c0, c1, c2, c3, c4, c5, c6, c7, c8⟩ := vbox (HL.out (w.heap.size + 1, vb (t3 n0) (t3 n1) (t3 n2)) (by simp))
      go_wp2_with fail
      go_at_call 17
      ((with_reducible refine (not_any (t3 n0) _).mono ?_); rintro e w7 ⟨rfl, hb⟩)
      have HB := Lib.hid (HB.out.trans ((hb.trans ((alloc_below _ (.cells #[.int .i64 (tk (notT (t3 n0))), .int .i64 (tn (notT (t3 n0))), .string ⟨#[]⟩] 24)).mono hb.size)).mono HB.out.size))
      have HL := Lib.hid ((HL.out.next hb).allocT (notT (t3 n0)))
      clear hb c0 c1 c2 c3 c4 c5 c6 c7 c8 
      obtain ⟨c0, c1, c2, c3, c4, c5, c6, c7, c8⟩ := vbox (HL.out (w.heap.size + 1, vb (t3 n0) (t3 n1) (t3 n2)) (by simp))
      go_wp2_with fail
      go_at_call 17
      ((with_reducible refine (not_any (t3 n1) _).mono ?_); rintro e w8 ⟨rfl, hb⟩)
      have HB := Lib.hid (HB.out.trans ((hb.trans ((alloc_below _ (.cells #[.int .i64 (tk (notT (t3 n1))), .int .i64 (tn (notT (t3 n1))), .string ⟨#[]⟩] 24)).mono hb.size)).mono HB.out.size))
      have HL := Lib.hid ((HL.out.next hb).allocT (notT (t3 n1)))
      clear hb c0 c1 c2 c3 c4 c5 c6 c7 c8 
      obtain ⟨c0, c1, c2, c3, c4, c5, c6, c7, c8⟩ := vbox (HL.out (w.heap.size + 1, vb (t3 n0) (t3 n1) (t3 n2)) (by simp))
      obtain ⟨bx0, bx1, bx2⟩ := tbox (HL.out (w7.heap.size, tb (notT (t3 n0))) (by simp))
      obtain ⟨by0, by1, by2⟩ := tbox (HL.out (w8.heap.size, tb (notT (t3 n1))) (by simp))
      go_wp2_with fail
      go_at_call 18
      ((with_reducible refine (or_any (notT (t3 n0)) (notT (t3 n1)) _).mono ?_); rintro e w9 ⟨rfl, hb⟩)
      have HB := Lib.hid (HB.out.trans ((hb.trans ((alloc_below _ (.cells #[.int .i64 (tk (orT (notT (t3 n0)) (notT (t3 n1)))), .int .i64 (tn (orT (notT (t3 n0)) (notT (t3 n1)))), .string ⟨#[]⟩] 24)).mono hb.size)).mono HB.out.size))
      have HL := Lib.hid ((HL.out.next hb).allocT (orT (notT (t3 n0)) (notT (t3 n1))))
      clear hb c0 c1 c2 c3 c4 c5 c6 c7 c8 bx0 bx1 bx2 by0 by1 by2
      obtain ⟨c0, c1, c2, c3, c4, c5, c6, c7, c8⟩ := vbox (HL.out (w.heap.size + 1, vb (t3 n0) (t3 n1) (t3 n2)) (by simp))
      obtain ⟨bx0, bx1, bx2⟩ := tbox (HL.out (w7.heap.size, tb (notT (t3 n0))) (by simp))
      go_wp2_with fail
      go_at_call 17
      ((with_reducible refine (not_any (notT (t3 n0)) _).mono ?_); rintro e w10 ⟨rfl, hb⟩)
      have HB := Lib.hid (HB.out.trans ((hb.trans ((alloc_below _ (.cells #[.int .i64 (tk (notT (notT (t3 n0)))), .int .i64 (tn (notT (notT (t3 n0)))), .string ⟨#[]⟩] 24)).mono hb.size)).mono HB.out.size))
      have HL := Lib.hid ((HL.out.next hb).allocT (notT (notT (t3 n0))))
      clear hb c0 c1 c2 c3 c4 c5 c6 c7 c8 bx0 bx1 bx2
      obtain ⟨c0, c1, c2, c3, c4, c5, c6, c7, c8⟩ := vbox (HL.out (w.heap.size + 1, vb (t3 n0) (t3 n1) (t3 n2)) (by simp))
      have q1 : eqB (tk (andT (t3 n0) (t3 n1))) (tn (andT (t3 n0) (t3 n1))) ⟨#[]⟩ (tk (andT (t3 n1) (t3 n0))) (tn (andT (t3 n1) (t3 n0))) ⟨#[]⟩ = true := by rw [and_comm3]; exact eq_refl3 _
      have q2 : eqB (tk (andT (andT (t3 n0) (t3 n1)) (t3 n2))) (tn (andT (andT (t3 n0) (t3 n1)) (t3 n2))) ⟨#[]⟩ (tk (andT (t3 n0) (andT (t3 n1) (t3 n2)))) (tn (andT (t3 n0) (andT (t3 n1) (t3 n2)))) ⟨#[]⟩ = true := by rw [and_assoc3]; exact eq_refl3 _
      have q3 : eqB (tk (notT (andT (t3 n0) (t3 n1)))) (tn (notT (andT (t3 n0) (t3 n1)))) ⟨#[]⟩ (tk (orT (notT (t3 n0)) (notT (t3 n1)))) (tn (orT (notT (t3 n0)) (notT (t3 n1)))) ⟨#[]⟩ = true := by rw [not_and3]; exact eq_refl3 _
      have q4 : eqB (tk (notT (notT (t3 n0)))) (tn (notT (notT (t3 n0)))) ⟨#[]⟩ (tk (t3 n0)) (tn (t3 n0)) ⟨#[]⟩ = true := by rw [not_not3]; exact eq_refl3 _
      have KA : Hid (∀ h0 : (tk (t3 n0) == 1) = true, ∀ h1 : (tk (t3 n1) == 1) = true, (tk (andT (t3 n0) (t3 n1)) == 1) = true) := Lib.hid (fun h0 h1 => by have := known3 (t3 n0) (t3 n1) (by simpa using h0) (by simpa using h1); simp [this])
      cases k0 : (tk (t3 n0) == 1) with
      | false =>
        go_wp2_with fail
        go_at_call 12
        refine (AL.out _ (HE.out.below HB.out)).mono ?_
        rintro e w11 ⟨rfl, hb⟩
        have HB := Lib.hid (HB.out.trans (hb.mono HB.out.size))
        have HL := Lib.hid (HL.out.next hb)
        clear hb c0 c1 c2 c3 c4 c5 c6 c7 c8
        obtain ⟨c0, c1, c2, c3, c4, c5, c6, c7, c8⟩ := vbox (HL.out (w.heap.size + 1, vb (t3 n0) (t3 n1) (t3 n2)) (by simp))
        obtain ⟨ba0, ba1, ba2⟩ := tbox (HL.out (w1.heap.size, tb (andT (t3 n0) (t3 n1))) (by simp))
        obtain ⟨bb0, bb1, bb2⟩ := tbox (HL.out (w2.heap.size, tb (andT (t3 n1) (t3 n0))) (by simp))
        obtain ⟨bc0, bc1, bc2⟩ := tbox (HL.out (w3.heap.size, tb (andT (andT (t3 n0) (t3 n1)) (t3 n2))) (by simp))
        obtain ⟨bd0, bd1, bd2⟩ := tbox (HL.out (w4.heap.size, tb (andT (t3 n0) (andT (t3 n1) (t3 n2)))) (by simp))
        obtain ⟨bn0, bn1, bn2⟩ := tbox (HL.out (w6.heap.size, tb (notT (andT (t3 n0) (t3 n1)))) (by simp))
        obtain ⟨bo0, bo1, bo2⟩ := tbox (HL.out (w9.heap.size, tb (orT (notT (t3 n0)) (notT (t3 n1)))) (by simp))
        obtain ⟨bw0, bw1, bw2⟩ := tbox (HL.out (w10.heap.size, tb (notT (notT (t3 n0)))) (by simp))
        go_wp2_with fail
        go_ret
        exact ⟨rfl, HB.out⟩
      | true =>
        cases k1 : (tk (t3 n1) == 1) with
        | false =>
          go_wp2_with fail
          go_at_call 12
          refine (AL.out _ (HE.out.below HB.out)).mono ?_
          rintro e w11 ⟨rfl, hb⟩
          have HB := Lib.hid (HB.out.trans (hb.mono HB.out.size))
          have HL := Lib.hid (HL.out.next hb)
          clear hb c0 c1 c2 c3 c4 c5 c6 c7 c8
          obtain ⟨c0, c1, c2, c3, c4, c5, c6, c7, c8⟩ := vbox (HL.out (w.heap.size + 1, vb (t3 n0) (t3 n1) (t3 n2)) (by simp))
          obtain ⟨ba0, ba1, ba2⟩ := tbox (HL.out (w1.heap.size, tb (andT (t3 n0) (t3 n1))) (by simp))
          obtain ⟨bb0, bb1, bb2⟩ := tbox (HL.out (w2.heap.size, tb (andT (t3 n1) (t3 n0))) (by simp))
          obtain ⟨bc0, bc1, bc2⟩ := tbox (HL.out (w3.heap.size, tb (andT (andT (t3 n0) (t3 n1)) (t3 n2))) (by simp))
          obtain ⟨bd0, bd1, bd2⟩ := tbox (HL.out (w4.heap.size, tb (andT (t3 n0) (andT (t3 n1) (t3 n2)))) (by simp))
          obtain ⟨bn0, bn1, bn2⟩ := tbox (HL.out (w6.heap.size, tb (notT (andT (t3 n0) (t3 n1)))) (by simp))
          obtain ⟨bo0, bo1, bo2⟩ := tbox (HL.out (w9.heap.size, tb (orT (notT (t3 n0)) (notT (t3 n1)))) (by simp))
          obtain ⟨bw0, bw1, bw2⟩ := tbox (HL.out (w10.heap.size, tb (notT (notT (t3 n0)))) (by simp))
          go_wp2_with fail
          go_ret
          exact ⟨rfl, HB.out⟩
        | true =>
          have ka := KA.out k0 k1
          go_wp2_with fail
          go_at_call 12
          refine (AL.out _ (HE.out.below HB.out)).mono ?_
          rintro e w11 ⟨rfl, hb⟩
          have HB := Lib.hid (HB.out.trans (hb.mono HB.out.size))
          have HL := Lib.hid (HL.out.next hb)
          clear hb c0 c1 c2 c3 c4 c5 c6 c7 c8
          obtain ⟨c0, c1, c2, c3, c4, c5, c6, c7, c8⟩ := vbox (HL.out (w.heap.size + 1, vb (t3 n0) (t3 n1) (t3 n2)) (by simp))
          obtain ⟨ba0, ba1, ba2⟩ := tbox (HL.out (w1.heap.size, tb (andT (t3 n0) (t3 n1))) (by simp))
          obtain ⟨bb0, bb1, bb2⟩ := tbox (HL.out (w2.heap.size, tb (andT (t3 n1) (t3 n0))) (by simp))
          obtain ⟨bc0, bc1, bc2⟩ := tbox (HL.out (w3.heap.size, tb (andT (andT (t3 n0) (t3 n1)) (t3 n2))) (by simp))
          obtain ⟨bd0, bd1, bd2⟩ := tbox (HL.out (w4.heap.size, tb (andT (t3 n0) (andT (t3 n1) (t3 n2)))) (by simp))
          obtain ⟨bn0, bn1, bn2⟩ := tbox (HL.out (w6.heap.size, tb (notT (andT (t3 n0) (t3 n1)))) (by simp))
          obtain ⟨bo0, bo1, bo2⟩ := tbox (HL.out (w9.heap.size, tb (orT (notT (t3 n0)) (notT (t3 n1)))) (by simp))
          obtain ⟨bw0, bw1, bw2⟩ := tbox (HL.out (w10.heap.size, tb (notT (notT (t3 n0)))) (by simp))
          go_wp2_with fail
          go_ret
          exact ⟨rfl, HB.out⟩
end Go.Proofs.YtlegmecmoaibbaaDoor
