/- The document's Sign of two numbers: what its sum comes to; fine. -/
import Derived.Test.YtjfbhajaddgmpaaDoorNCH
import Derived.Test.YtjfbhajaddgmpaaDoorNU
namespace Go.Proofs.YtjfbhajaddgmpaaDoor
open Go.RowKit

theorem sgnd_scl (k n : Int) (hk : k = 2 ∨ k = 3) : sgnd (decide (n < 0)) (sclN k n) = scal k n := by
  unfold sgnd sclN scal
  rcases hk with rfl | rfl
  · by_cases h : n < 0
    · rw [if_pos (decide_eq_true h), if_pos rfl, if_neg (by decide)]; omega
    · rw [if_neg (by simpa using h), if_pos rfl, if_neg (by decide)]; omega
  · by_cases h : n < 0
    · rw [if_pos (decide_eq_true h), if_neg (by decide), if_pos rfl]; omega
    · rw [if_neg (by simpa using h), if_neg (by decide), if_pos rfl]; omega
theorem scl_ok (k n : Int) (hn : i64ok n) : 0 ≤ sclN k n ∧ sclN k n < 18446744073709551616000000 := by
  obtain ⟨h1, h2⟩ := hn
  unfold sclN
  split <;> omega
theorem sign_cmpI (x y : Int) : (x - y).sign = cmpI x y := by
  rcases Int.lt_trichotomy x y with h | h | h
  · rw [cmpI_lt h]; exact Int.sign_eq_neg_one_of_neg (by omega)
  · rw [cmpI_eq h, h, Int.sub_self]; rfl
  · rw [cmpI_gt h]; exact Int.sign_eq_one_of_pos (by omega)
/-- the sum that the document asks for its sign: a number and the other one, turned round -/
theorem refBig_diff (k n j m : Int) (hk : k = 2 ∨ k = 3) (hj : j = 2 ∨ j = 3) (hn : i64ok n) (hm : i64ok m) :
    ∃ s Z, (∀ w, Calls Tryd.prog 28 #[.agg (magC (decide (n < 0)) (sclN k n)), .agg (magC (!decide (m < 0)) (sclN j m))] w (Ans (.agg (magC s Z)) w)) ∧
      ∀ w, Calls Tryd.prog 29 #[.agg (magC s Z)] w (Ans (.int .i64 (signN k n j m)) w) := by
  obtain ⟨s, Z, hZ, he, -, hc⟩ := refBig_add (decide (n < 0)) (!decide (m < 0)) (sclN k n) (sclN j m) (scl_ok k n hn) (scl_ok j m hm)
  refine ⟨s, Z, hc, fun w => ?_⟩
  have h := refBig_magSign s Z hZ w
  have e2 : sgnd (!decide (m < 0)) (sclN j m) = -(scal j m) := by
    rw [← sgnd_scl j m hj]
    unfold sgnd
    by_cases h : m < 0
    · simp [h]
    · simp [h]
  have e : (sgnd s Z).sign = signN k n j m := by
    rw [he, sgnd_scl k n hk, e2, sign_scal k n j m hk hj, ← sign_cmpI]
    rfl
  rw [e] at h
  exact h
set_option maxRecDepth 100000 in
theorem refBig_fine (w : World) : Calls Tryd.prog 19 #[] w (Ans (.agg #[.int .i64 0, .int .i64 (-1)]) w) := by
  have HB := Lib.hid (alloc_below w (.cells #[.int .i64 0, .int .i64 (-1)] 33))
  go_enter Tryd.func19, Tryd.ntmps19
  go_wp2_with fail
  exact bodyPost_ret (v := .agg #[.int .i64 0, .int .i64 (-1)]) (by simp [results, Tryd.results19, go_sem]) rfl ⟨rfl, HB.out⟩
end Go.Proofs.YtjfbhajaddgmpaaDoor
