/- Package letter: whole. -/
import Derived.Test.YthdhifnafgidaaaZJ
import Derived.Test.YthdhifnafgidaaaZD
namespace Go.Proofs.Ythdhifnafgidaaa
open Go.RowKit

set_option maxRecDepth 100000 in
theorem other_any (x : Val) (w : World) : Calls Try.prog 53 #[.agg #[.int .i64 x.k, .int .i64 x.n, .string x.s]] w (Ans (.bool (x.k != 2)) w) := by
  have HB := Lib.hid (alloc_below w (.cells #[.int .i64 x.k, .int .i64 x.n, .string x.s] 88))
  go_enter Try.func53, Try.ntmps53
  go_wp2_with fail
  go_ret
  exact ⟨rfl, HB.out⟩
def otherL (l : List Val) : Bool := l.any fun x => x.k != 2
def IvL (W : World) (l : List Val) (v8 : Value) (wr : World) : Prop := ∃ i : Nat, v8 = .int .i64 i ∧ i ≤ l.length ∧ (∀ x ∈ l.take i, (x.k != 2) = false) ∧ Below W.heap.size W wr
def IvT (W : World) (l : List Val) (e : Ending) (W' : World) : Prop := ∃ r : Int, e = .returned (.int .i64 r) ∧ decide (0 ≤ r) = otherL l ∧ Below W.heap.size W W'
set_option maxRecDepth 100000 in
set_option maxHeartbeats 4000000 in
theorem indexV_any (l : List Val) (A : Option Addr) (n cap : Nat) (hn : l.length = n) (hn2 : n ≤ 1000000) (W : World) (hr : RdV W W.heap.size A l) :
    Calls Try.prog 66 #[.slice A n cap, .func (.func 53) #[] #[]] W (IvT W l) := by
  have HR := Lib.hid hr
  have HN := Lib.hid hn
  have hni : (n : Int) ≤ 1000000 := by omega
  have HST : Hid (IvL W l (.int .i64 0) W) := Lib.hid ⟨0, rfl, Nat.zero_le _, fun x hx => by simp at hx, Below.refl _ _⟩
  clear hr hn hn2
  go_enter Try.func66, Try.ntmps66
  go_wp2_with fail
  go_loopw [8] (fun v8 wr => IvL W l v8 wr) (fun v8 _ => n - (intOf v8).toNat)
  case atStart => exact HST.out
  case round =>
    obtain ⟨i, rfl, hi, hall, hb⟩ := hrel
    have HA := Lib.hid hall
    have HB := Lib.hid hb
    have hi' : i ≤ n := by rw [← HN.out]; exact hi
    have hii : (i : Int) ≤ 1000000 := by omega
    clear hall hb hi
    by_cases hlt : i < n
    · obtain ⟨x, hx⟩ : ∃ x, l[i]? = some x := ⟨_, List.getElem?_eq_getElem (by rw [HN.out]; exact hlt)⟩
      obtain ⟨b, o, hA, c0, c1, c2⟩ := HR.out.at_ hx HB.out (Nat.le_refl _)
      subst hA
      have hlti : (i : Int) < (n : Int) := by omega
      cases hw : (x.k != 2) with
      | false =>
        have HC := Lib.hid (other_any x wr)
        rw [hw] at HC
        have HY : Hid (∀ v8 w2, v8 = .int .i64 ((i + 1 : Nat) : Int) → Below wr.heap.size wr w2 → IvL W l v8 w2) := Lib.hid fun v8 w2 h8 hb => ⟨i + 1, h8, by rw [HN.out]; exact hlt, fun y hy => by
          rw [List.take_add_one, hx, Option.toList_some, List.mem_append, List.mem_singleton] at hy
          rcases hy with hy | rfl
          · exact HA.out y hy
          · exact hw, HB.out.trans (hb.mono HB.out.size)⟩
        clear hx hw
        go_wp2_with (go_at_call 53; refine HC.out.mono ?_; rintro e w2 ⟨rfl, hb⟩; have HZ := Lib.hid (fun v8 h8 => HY.out v8 _ h8 hb); clear hb)
        go_roundw
        case rel => first | exact HZ.out _ (by go_num) | ((repeat apply Exists.intro); exact ⟨HZ.out _ (by go_num), rfl⟩)
        case measure => simp [intOf]; omega
      | true =>
        have HC := Lib.hid (other_any x wr)
        rw [hw] at HC
        have HY : Hid (∀ w2, Below wr.heap.size wr w2 → IvT W l (.returned (.int .i64 (i : Int))) w2) := Lib.hid fun w2 hb => ⟨_, rfl, by
          rw [decide_eq_true (by omega)]
          exact (List.any_eq_true.2 ⟨x, List.mem_of_getElem? hx, hw⟩).symm, HB.out.trans (hb.mono HB.out.size)⟩
        clear hx hw
        go_wp2_with (go_at_call 53; refine HC.out.mono ?_; rintro e w2 ⟨rfl, hb⟩; have HZ := Lib.hid (HY.out _ hb); clear hb)
        go_ret
        exact HZ.out
    · have hie : i = n := by omega
      subst hie
      have hlti : ¬ (i : Int) < (i : Int) := by omega
      have HY : Hid (IvT W l (.returned (.int .i64 (-1))) wr) := Lib.hid ⟨-1, rfl, by
        have h : otherL l = false := List.any_eq_false.2 fun x hx => by
          have := HA.out x (by rw [List.take_of_length_le (by rw [HN.out]; exact Nat.le_refl _)]; exact hx)
          rw [this]; simp
        rw [h]; rfl, HB.out⟩
      clear hlt hi'
      go_wp2_with fail
      go_ret
      exact HY.out
set_option maxRecDepth 100000 in
theorem containsV_any (l : List Val) (A : Option Addr) (n cap : Nat) (hn : l.length = n) (hn2 : n ≤ 1000000) (W : World) (hr : RdV W W.heap.size A l) :
    Calls Try.prog 54 #[.slice A n cap, .func (.func 53) #[] #[]] W (Ans (.bool (otherL l)) W) := by
  have HX := Lib.hid (indexV_any l A n cap hn hn2 W hr)
  clear hn hn2 hr
  go_enter Try.func54, Try.ntmps54
  go_wp2_with (go_at_call 66; refine HX.out.mono ?_; rintro e w2 ⟨r, rfl, hr, hb⟩; have HR := Lib.hid hr; have HB := Lib.hid hb; clear hr hb)
  go_ret
  exact ⟨by rw [← HR.out]; rfl, HB.out⟩
end Go.Proofs.Ythdhifnafgidaaa
