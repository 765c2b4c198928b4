/- Package number: parts, Sign at numbers. -/
import Derived.Test.YtjfbhajaddgmpaaDoorNA
import Derived.Test.YtjfbhajaddgmpaaDoorQ
namespace Go.Proofs.YtjfbhajaddgmpaaDoor
open Go.RowKit

theorem isKnown_num (k n : Int) (h : k = 2 ∨ k = 3) (w : World) : Calls Tryd.prog 21 #[.agg #[.int .i64 k, .int .i64 n, .string ⟨#[]⟩]] w (Ans (.bool true) w) := by
  have HR := Lib.hid (right_at k n (right_num k n h))
  have HB := Lib.hid (VB.start w k n ⟨#[]⟩)
  rcases h with rfl | rfl
  all_goals
    go_enter Tryd.func21, Tryd.ntmps21
    go_wp2_with (go_at_call 16; refine (HR.out _).mono ?_; rintro e w2 ⟨rfl, hb⟩; have HB := Lib.hid (HB.out.next hb); clear hb; obtain ⟨x0, x1, x2⟩ := box3 HB.out.x)
    go_ret
    exact ⟨rfl, HB.out.bel⟩
/-- a number's whole part and what is left -/
def wholeI (k n : Int) : Int := n.tdiv (unitI k)
def restI (k n : Int) : Int := n.tmod (unitI k)
theorem whole_ok (k n : Int) (hn : i64ok n) : i64ok (wholeI k n) := by
  unfold wholeI unitI
  obtain ⟨a, b⟩ := hn
  split
  · have h := Int.natAbs_tdiv n 10000
    have h2 : n.natAbs.div (10000 : Int).natAbs = n.natAbs / 10000 := rfl
    rw [h2] at h
    unfold i64ok; omega
  · rw [Int.tdiv_one]; exact ⟨a, b⟩
set_option maxRecDepth 100000 in
set_option maxHeartbeats 2000000 in
theorem parts_num (k n : Int) (hn : i64ok n) (w : World) : Calls Tryd.prog 23 #[.agg #[.int .i64 k, .int .i64 n, .string ⟨#[]⟩]] w (Ans (.tuple #[.int .i64 (wholeI k n), .int .i64 (restI k n)]) w) := by
  have UN := Lib.hid (unit_any k)
  have HB := Lib.hid ((VB.start w k n ⟨#[]⟩).next (drew_below _))
  obtain ⟨u, hu⟩ : ∃ u, Hid (u = unitI k) := ⟨_, Lib.hid rfl⟩
  rw [← hu.out] at UN
  obtain ⟨q, hq⟩ : ∃ q, Hid (q = n.tdiv u) := ⟨_, Lib.hid rfl⟩
  obtain ⟨r, hr⟩ : ∃ r, Hid (r = n.tmod u) := ⟨_, Lib.hid rfl⟩
  have hqo : i64ok q := by rw [hq.out, hu.out]; exact whole_ok k n hn
  have e1 : IntKind.i64.wrap q = q := by rw [IntKind.wrap_i64]; obtain ⟨a, b⟩ := hqo; omega
  have e3 : n.tdiv u = q := hq.out.symm
  have e4 : n.tmod u = r := hr.out.symm
  have u0 : (u == 0) = false := by rw [hu.out]; unfold unitI; split <;> rfl
  have u1 : ¬ u = 0 := by simpa using u0
  have HV : Hid (wholeI k n = q ∧ restI k n = r) := Lib.hid ⟨by rw [hq.out, hu.out]; rfl, by rw [hr.out, hu.out]; rfl⟩
  rw [HV.out.1, HV.out.2]
  clear hn hqo
  go_enter Tryd.func23, Tryd.ntmps23
  go_wp2_with fail
  go_region_held3 (fun W => W.cell? ⟨w.heap.size, 0, none⟩ = some (.int .i64 k) ∧ W.cell? ⟨w.heap.size, 1, none⟩ = some (.int .i64 n) ∧ W.cell? ⟨w.heap.size, 2, none⟩ = some (.string ⟨#[]⟩))
    (first | exact box3 HB.out.x | go_keep)
    ((go_at_call 36; refine (UN.out _).mono ?_; rintro e w1 ⟨rfl, rfl⟩))
  go_wp2_with fail
  go_ret2
  first | exact ⟨rfl, HB.out.bel⟩ | (refine ⟨?_, HB.out.bel⟩; simp only [e1]; rfl)
/-- the first of two that is not 0 -/
def or2I (a b : Int) : Int := if a ≠ 0 then a else b
def OJ (a b : Int) (v8 : Value) : Prop := ∃ k : Nat, v8 = .int .i64 k ∧ ((k = 0) ∨ (k = 1 ∧ a = 0) ∨ (k = 2 ∧ a = 0 ∧ b = 0))
theorem box2 {w : World} {b : Nat} {x y : Value} {t : TypeId} {fr : Nat × Nat} (h : w.heap[b]? = some (.cells #[x, y] t fr)) : w.cell? ⟨b, 0, none⟩ = some x ∧ w.cell? ⟨b, 1, none⟩ = some y := by simp [World.cell?, h]
set_option maxHeartbeats 1000000 in
theorem or2_any (g : Nat) (a b : Int) (w : World) (h : w.heap[g]? = some (.cells #[.int .i64 a, .int .i64 b] 3 (0, 0))) : Calls Tryd.prog 24 #[.slice (some ⟨g, 0, none⟩) 2 2] w fun e w' => e = .returned (.int .i64 (or2I a b)) ∧ w = w' := by
  obtain ⟨x0, x1⟩ := box2 h
  clear h
  go_enter Tryd.func24, Tryd.ntmps24
  go_wp2_with fail
  go_loop [8] (fun v8 => OJ a b v8) (fun v8 => 2 - (intOf v8).toNat)
  case atStart => exact ⟨0, rfl, .inl rfl⟩
  case round =>
    obtain ⟨k, rfl, rfl | ⟨rfl, ha⟩ | ⟨rfl, ha, hb⟩⟩ := hrel
    · by_cases h0 : a = 0
      · subst h0
        go_wp2_with fail
        go_round
        case rel => exact ⟨1, rfl, .inr (.inl ⟨rfl, rfl⟩)⟩
        case measure => simp [intOf]
      · have hz : (a == 0) = false := by simpa using h0
        have HE : Hid (a = or2I a b) := Lib.hid (by unfold or2I; rw [if_pos h0])
        clear h0
        go_wp2_with fail
        go_ret
        exact ⟨ret_int HE.out, rfl⟩
    · subst ha
      by_cases h0 : b = 0
      · subst h0
        go_wp2_with fail
        go_round
        case rel => exact ⟨2, rfl, .inr (.inr ⟨rfl, rfl, rfl⟩)⟩
        case measure => simp [intOf]
      · have hz : (b == 0) = false := by simpa using h0
        have HE : Hid (b = or2I 0 b) := Lib.hid (by unfold or2I; rw [if_neg (by simp)])
        clear h0
        go_wp2_with fail
        go_ret
        exact ⟨ret_int HE.out, rfl⟩
    · subst ha hb
      go_wp2_with fail
      go_ret
      exact ⟨by simp [or2I], rfl⟩
end Go.Proofs.YtjfbhajaddgmpaaDoor
