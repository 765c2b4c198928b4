/- The document's Order and Rows of values. -/
import Derived.Test.YtjfbhajaddgmpaaDoorRO
namespace Go.Proofs.YtjfbhajaddgmpaaDoor
open Go.RowKit

set_option maxRecDepth 100000 in
set_option maxHeartbeats 8000000 in
theorem refOrder_any (x y : Val) (w : World) : Calls Tryd.prog 30 #[.agg #[.int .i64 x.k, .int .i64 x.n, .string x.s], .agg #[.int .i64 y.k, .int .i64 y.n, .string y.s]] w (Ans (.int .i64 (ordI x y)) w) := by
  obtain ⟨k, n, s⟩ := x
  obtain ⟨j, m, t⟩ := y
  simp only
  have HB := Lib.hid (alloc2_below w (.cells #[.int .i64 k, .int .i64 n, .string s] 25) (.cells #[.int .i64 j, .int .i64 m, .string t] 25))
  have HV := Lib.hid (ord_lex ⟨k, n, s⟩ ⟨j, m, t⟩)
  obtain ⟨res, hres⟩ : ∃ res, Hid (ordI ⟨k, n, s⟩ ⟨j, m, t⟩ = res) := ⟨_, Lib.hid rfl⟩
  rw [hres.out]
  rw [hres.out] at HV
  simp only at HV
  rcases Int.lt_trichotomy k j with h1 | h1 | h1
  · have HE : Hid (res = -1) := Lib.hid (by rw [HV.out, cmpI_lt h1]; rfl)
    go_enter Tryd.func30, Tryd.ntmps30
    go_wp2_with fail
    go_ret
    exact ⟨(by rw [HE.out]; rfl), HB.out⟩
  · subst h1
    have hk : ¬ k < k := by omega
    rcases Int.lt_trichotomy n m with h2 | h2 | h2
    · have HE : Hid (res = -1) := Lib.hid (by rw [HV.out, cmpI_eq rfl, cmpI_lt h2]; rfl)
      go_enter Tryd.func30, Tryd.ntmps30
      go_wp2_with fail
      go_ret
      exact ⟨(by rw [HE.out]; rfl), HB.out⟩
    · subst h2
      have hn : ¬ n < n := by omega
      have HC : Hid (res = cmpB s.data.toList t.data.toList) := Lib.hid (by rw [HV.out, cmpI_eq rfl, cmpI_eq rfl]; rfl)
      have h3 := cmpB_3 s.data.toList t.data.toList
      have hl : Op.bytesLess s.toList t.toList = decide (cmpB s.data.toList t.data.toList < 0) := by rw [less_eq, ByteArray.toList_eq, ByteArray.toList_eq]
      have he : (s.toList == t.toList) = decide (cmpB s.data.toList t.data.toList = 0) := by
        rw [ByteArray.toList_eq, ByteArray.toList_eq]
        by_cases e : s.data.toList = t.data.toList
        · rw [e, cmpB_self]; simp
        · rw [decide_eq_false fun h => e (cmpB_zero h)]; exact beq_false_of_ne e
      have HLE := Lib.hid (And.intro hl he)
      clear hl he
      generalize cmpB s.data.toList t.data.toList = c at *
      rcases h3 with rfl | rfl | rfl
      · have HE : Hid (res = -1) := HC
        have l1 : Op.bytesLess s.toList t.toList = true := HLE.out.1
        have l2 : (s.toList == t.toList) = false := HLE.out.2
        go_enter Tryd.func30, Tryd.ntmps30
        go_wp2_with fail
        go_ret
        exact ⟨(by rw [HE.out]; rfl), HB.out⟩
      · have HE : Hid (res = 0) := HC
        have l1 : Op.bytesLess s.toList t.toList = false := HLE.out.1
        have l2 : (s.toList == t.toList) = true := HLE.out.2
        go_enter Tryd.func30, Tryd.ntmps30
        go_wp2_with fail
        go_ret
        exact ⟨(by rw [HE.out]; rfl), HB.out⟩
      · have HE : Hid (res = 1) := HC
        have l1 : Op.bytesLess s.toList t.toList = false := HLE.out.1
        have l2 : (s.toList == t.toList) = false := HLE.out.2
        go_enter Tryd.func30, Tryd.ntmps30
        go_wp2_with fail
        go_ret
        exact ⟨(by rw [HE.out]; rfl), HB.out⟩
    · have h2' : ¬ n < m := by omega
      have HE : Hid (res = 1) := Lib.hid (by rw [HV.out, cmpI_eq rfl, cmpI_gt h2]; rfl)
      go_enter Tryd.func30, Tryd.ntmps30
      go_wp2_with fail
      go_ret
      exact ⟨(by rw [HE.out]; rfl), HB.out⟩
  · have h1' : ¬ k < j := by omega
    have HE : Hid (res = 1) := Lib.hid (by rw [HV.out, cmpI_gt h1]; rfl)
    go_enter Tryd.func30, Tryd.ntmps30
    go_wp2_with fail
    go_ret
    exact ⟨(by rw [HE.out]; rfl), HB.out⟩
end Go.Proofs.YtjfbhajaddgmpaaDoor
