/- Package number's small functions, at numbers and at Null. -/
import Derived.Test.YtjfbhajaddgmpaaDoorA
import Derived.Test.YtjfbhajaddgmpaaDoorFA
namespace Go.Proofs.YtjfbhajaddgmpaaDoor
open Go.RowKit

theorem right_num (k n : Int) (h : k = 2 ∨ k = 3) : rightB ⟨k, n, ⟨#[]⟩⟩ = true := by
  unfold rightB
  rcases h with rfl | rfl <;> simp
theorem right_nul : rightB ⟨0, 0, ⟨#[]⟩⟩ = true := by decide
/-- numbers and Null -/
def termP (k n : Int) : Prop := k = 2 ∨ k = 3 ∨ k = 0 ∧ n = 0
theorem right_term {k n : Int} (h : termP k n) : rightB ⟨k, n, ⟨#[]⟩⟩ = true := by
  rcases h with h | h | ⟨rfl, rfl⟩
  · exact right_num k n (.inl h)
  · exact right_num k n (.inr h)
  · exact right_nul
theorem right_at (k n : Int) (hr : rightB ⟨k, n, ⟨#[]⟩⟩ = true) (w : World) : Calls Tryd.prog 16 #[.agg #[.int .i64 k, .int .i64 n, .string ⟨#[]⟩]] w (Ans (.bool true) w) := by
  have := right_any ⟨k, n, ⟨#[]⟩⟩ (by show (0 : Nat) ≤ _; omega) w
  rwa [hr] at this
theorem isNumber_yes (k n : Int) (h : k = 2 ∨ k = 3) (w : World) : Calls Tryd.prog 22 #[.agg #[.int .i64 k, .int .i64 n, .string ⟨#[]⟩]] w (Ans (.bool true) w) := by
  rcases h with rfl | rfl
  all_goals
    go_enter Tryd.func22, Tryd.ntmps22
    go_wp2_with fail
    go_ret
    exact ⟨rfl, alloc_below _ _⟩
theorem isNumber_no (w : World) : Calls Tryd.prog 22 #[.agg #[.int .i64 0, .int .i64 0, .string ⟨#[]⟩]] w (Ans (.bool false) w) := by
  go_enter Tryd.func22, Tryd.ntmps22
  go_wp2_with fail
  go_ret
  exact ⟨rfl, alloc_below _ _⟩
/-- one value in a box -/
structure VB (w0 W : World) (k n : Int) (s : ByteArray) : Prop where
  x : W.heap[w0.heap.size]? = some (.cells #[.int .i64 k, .int .i64 n, .string s] 25 (0, 0))
  bel : Below w0.heap.size w0 W
theorem VB.next {w0 W V : World} {k n : Int} {s : ByteArray} (h : VB w0 W k n s) (hb : Below W.heap.size W V) : VB w0 V k n s :=
  ⟨(hb.block _ (Array.getElem?_eq_some_iff.1 h.x).1).trans h.x, h.bel.trans (hb.mono h.bel.size)⟩
theorem VB.start (w : World) (k n : Int) (s : ByteArray) : VB w (w.alloc (.cells #[.int .i64 k, .int .i64 n, .string s] 25)) k n s := ⟨heap_alloc_new _ _, alloc_below _ _⟩
theorem isTerm_term (k n : Int) (h : termP k n) (w : World) : Calls Tryd.prog 32 #[.agg #[.int .i64 k, .int .i64 n, .string ⟨#[]⟩]] w (Ans (.bool true) w) := by
  have HR := Lib.hid (right_at k n (right_term h))
  have HB := Lib.hid (VB.start w k n ⟨#[]⟩)
  rcases h with h | h | ⟨rfl, rfl⟩
  · have HN := Lib.hid (isNumber_yes k n (.inl h))
    clear h
    go_enter Tryd.func32, Tryd.ntmps32
    go_wp2_with (first
      | (go_at_call 16; refine (HR.out _).mono ?_; rintro e w2 ⟨rfl, hb⟩; have HB := Lib.hid (HB.out.next hb); clear hb; obtain ⟨x0, x1, x2⟩ := box3 HB.out.x)
      | (go_at_call 22; refine (HN.out _).mono ?_; rintro e w2 ⟨rfl, hb⟩; have HB := Lib.hid (HB.out.next hb); clear hb; obtain ⟨x0, x1, x2⟩ := box3 HB.out.x))
    go_ret
    exact ⟨rfl, HB.out.bel⟩
  · have HN := Lib.hid (isNumber_yes k n (.inr h))
    clear h
    go_enter Tryd.func32, Tryd.ntmps32
    go_wp2_with (first
      | (go_at_call 16; refine (HR.out _).mono ?_; rintro e w2 ⟨rfl, hb⟩; have HB := Lib.hid (HB.out.next hb); clear hb; obtain ⟨x0, x1, x2⟩ := box3 HB.out.x)
      | (go_at_call 22; refine (HN.out _).mono ?_; rintro e w2 ⟨rfl, hb⟩; have HB := Lib.hid (HB.out.next hb); clear hb; obtain ⟨x0, x1, x2⟩ := box3 HB.out.x))
    go_ret
    exact ⟨rfl, HB.out.bel⟩
  · have HN := Lib.hid (isNumber_no)
    go_enter Tryd.func32, Tryd.ntmps32
    go_wp2_with (first
      | (go_at_call 16; refine (HR.out _).mono ?_; rintro e w2 ⟨rfl, hb⟩; have HB := Lib.hid (HB.out.next hb); clear hb; obtain ⟨x0, x1, x2⟩ := box3 HB.out.x)
      | (go_at_call 22; refine (HN.out _).mono ?_; rintro e w2 ⟨rfl, hb⟩; have HB := Lib.hid (HB.out.next hb); clear hb; obtain ⟨x0, x1, x2⟩ := box3 HB.out.x))
    go_ret
    exact ⟨rfl, HB.out.bel⟩
/-- a kind's unit -/
def unitI (k : Int) : Int := if k = 3 then 10000 else 1
theorem unit_any (k : Int) (w : World) : Calls Tryd.prog 36 #[.int .i64 k] w fun e w' => e = .returned (.int .i64 (unitI k)) ∧ w = w' := by
  unfold unitI
  by_cases h : k = 3
  · subst h
    go_enter Tryd.func36, Tryd.ntmps36
    go_wp2_with fail
    go_ret
    exact ⟨rfl, rfl⟩
  · rw [if_neg h]
    have h' : (k == 3) = false := by simpa using h
    clear h
    go_enter Tryd.func36, Tryd.ntmps36
    go_wp2_with fail
    go_ret
    exact ⟨rfl, rfl⟩
def commonI (k j : Int) : Int := if k = 3 then 3 else j
theorem common_any (k j : Int) (w : World) : Calls Tryd.prog 33 #[.int .i64 k, .int .i64 j] w fun e w' => e = .returned (.int .i64 (commonI k j)) ∧ w = w' := by
  unfold commonI
  by_cases h : k = 3
  · subst h
    go_enter Tryd.func33, Tryd.ntmps33
    go_wp2_with fail
    go_ret
    exact ⟨rfl, rfl⟩
  · rw [if_neg h]
    have h' : (k == 3) = false := by simpa using h
    clear h
    go_enter Tryd.func33, Tryd.ntmps33
    go_wp2_with fail
    go_ret
    exact ⟨rfl, rfl⟩
theorem magnitudeN_any (n : Int) (hn : i64ok n) (w : World) : Calls Tryd.prog 55 #[.int .i64 n] w fun e w' => e = .returned (.int .u64 (n.natAbs : Int)) ∧ w = w' := by
  obtain ⟨h1, h2⟩ := hn
  by_cases h : n < 0
  · have HE : Hid (IntKind.u64.wrap (-IntKind.u64.wrap n) = (n.natAbs : Int)) := Lib.hid (by rw [IntKind.wrap_u64, IntKind.wrap_u64]; omega)
    go_enter Tryd.func55, Tryd.ntmps55
    go_wp2
    go_ret
    exact ⟨ret_int HE.out, rfl⟩
  · have HE : Hid (IntKind.u64.wrap n = (n.natAbs : Int)) := Lib.hid (by rw [IntKind.wrap_u64]; omega)
    have HF : Hid (n = (n.natAbs : Int)) := Lib.hid (by omega)
    go_enter Tryd.func55, Tryd.ntmps55
    go_wp2
    go_ret
    exact ⟨ret_int (by first | exact HE.out | exact HF.out), rfl⟩
end Go.Proofs.YtjfbhajaddgmpaaDoor
