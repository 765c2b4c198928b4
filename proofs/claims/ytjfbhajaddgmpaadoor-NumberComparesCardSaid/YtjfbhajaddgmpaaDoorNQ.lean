/- Package number: Sign and Compare at numbers. -/
import Derived.Test.YtjfbhajaddgmpaaDoorNP
import Derived.Test.YtjfbhajaddgmpaaDoorNG
import Derived.Test.YtjfbhajaddgmpaaDoorNX
namespace Go.Proofs.YtjfbhajaddgmpaaDoor
open Go.RowKit

/-- how two numbers stand -/
def signN (k n j m : Int) : Int := or2I (cmpI (wholeI k n) (wholeI j m)) (cmpI (restI k n) (restI j m))
set_option maxRecDepth 100000 in
set_option maxHeartbeats 4000000 in
theorem sign_num (k n j m : Int) (hk : k = 2 ∨ k = 3) (hj : j = 2 ∨ j = 3) (hn : i64ok n) (hm : i64ok m) (w : World) :
    Calls Tryd.prog 7 #[.agg #[.int .i64 k, .int .i64 n, .string ⟨#[]⟩], .agg #[.int .i64 j, .int .i64 m, .string ⟨#[]⟩]] w (Ans (.tuple #[.int .i64 (signN k n j m), .nilIface]) w) := by
  have KA := Lib.hid (isKnown_num k n hk)
  have KB := Lib.hid (isKnown_num j m hj)
  have NA := Lib.hid (isNumber_yes k n hk)
  have NB := Lib.hid (isNumber_yes j m hj)
  have PA := Lib.hid (parts_num k n hn)
  have PZ := Lib.hid (parts_num j m hm)
  have HB := Lib.hid (PB.start w k n ⟨#[]⟩ j m ⟨#[]⟩)
  have HS : Hid (signN k n j m = or2I (cmpI (wholeI k n) (wholeI j m)) (cmpI (restI k n) (restI j m))) := Lib.hid rfl
  rw [HS.out]
  clear hk hj hn hm HS
  generalize wholeI k n = a at *
  generalize wholeI j m = b at *
  generalize restI k n = c at *
  generalize restI j m = d at *
  have C1 := Lib.hid (cmp64_any a b)
  have C2 := Lib.hid (cmp64_any c d)
  generalize cmpI a b = p at *
  generalize cmpI c d = q at *
  go_enter Tryd.func7, Tryd.ntmps7
  go_wp2_with (first
    | (go_at_call 21; first | ((with_reducible refine (KA.out _).mono ?_); rintro e w2 ⟨rfl, hb⟩) | ((with_reducible refine (KB.out _).mono ?_); rintro e w2 ⟨rfl, hb⟩)
       have HB := Lib.hid (HB.out.next hb); clear hb; obtain ⟨x0, x1, x2, y0, y1, y2⟩ := HB.out.six)
    | (go_at_call 22; first | ((with_reducible refine (NA.out _).mono ?_); rintro e w2 ⟨rfl, hb⟩) | ((with_reducible refine (NB.out _).mono ?_); rintro e w2 ⟨rfl, hb⟩)
       have HB := Lib.hid (HB.out.next hb); clear hb; obtain ⟨x0, x1, x2, y0, y1, y2⟩ := HB.out.six)
    | (go_at_call 23; first | ((with_reducible refine (PA.out _).mono ?_); rintro e w2 ⟨rfl, hb⟩) | ((with_reducible refine (PZ.out _).mono ?_); rintro e w2 ⟨rfl, hb⟩)
       have HB := Lib.hid (HB.out.next hb); clear hb; obtain ⟨x0, x1, x2, y0, y1, y2⟩ := HB.out.six)
    | (go_at_call 25; first | ((with_reducible refine (C1.out _).mono ?_); rintro e w2 ⟨rfl, rfl⟩) | ((with_reducible refine (C2.out _).mono ?_); rintro e w2 ⟨rfl, rfl⟩))
    | (go_at_call 24; refine (or2_any _ p q _ (heap_alloc_new _ _)).mono ?_; rintro e w2 ⟨rfl, rfl⟩))
  go_ret2
  exact ⟨rfl, HB.out.bel.trans ((alloc_below _ _).mono HB.out.bel.size)⟩
/-- does a comparison hold? -/
def holdsB (op s : Int) : Bool := if op = 8 then decide (s = 0) else if op = 9 then decide (s ≠ 0) else if op = 10 then decide (s < 0) else if op = 11 then decide (s ≤ 0) else if op = 12 then decide (0 < s) else if op = 13 then decide (0 ≤ s) else false
set_option maxRecDepth 100000 in
set_option maxHeartbeats 2000000 in
theorem holds_any (op s : Int) (hop : 8 ≤ op ∧ op ≤ 13) (hs : s = -1 ∨ s = 0 ∨ s = 1) (w : World) : Calls Tryd.prog 17 #[.int .i64 op, .int .i64 s] w fun e w' => e = .returned (.bool (holdsB op s)) ∧ w = w' := by
  have h : op = 8 ∨ op = 9 ∨ op = 10 ∨ op = 11 ∨ op = 12 ∨ op = 13 := by omega
  clear hop
  rcases h with rfl | rfl | rfl | rfl | rfl | rfl <;> rcases hs with rfl | rfl | rfl
  all_goals
    go_enter Tryd.func17, Tryd.ntmps17
    go_wp2_with fail
    go_ret
    exact ⟨rfl, rfl⟩
end Go.Proofs.YtjfbhajaddgmpaaDoor
