/- The document's Right and Order of values. -/
import Derived.Test.YtjfbhajaddgmpaaDoorKC
import Derived.Test.YtjfbhajaddgmpaaDoorKD
namespace Go.Proofs.YtjfbhajaddgmpaaDoor
open Go.RowKit

theorem isT_form (k n : Int) (s : ByteArray) : isT ⟨k, n, s⟩ = decide ((k = 0 ∧ n = 0 ∧ s = ⟨#[]⟩) ∨ (k = 1 ∧ n = 0 ∧ s = ⟨#[]⟩) ∨ (k = 1 ∧ n = 1 ∧ s = ⟨#[]⟩)) := by
  unfold isT eqB
  rw [Bool.eq_iff_iff]
  simp only [Bool.or_eq_true, decide_eq_true_eq]
  exact ⟨fun h => by rcases h with (h | h) | h; exact .inl h; exact .inr (.inl h); exact .inr (.inr h), fun h => by rcases h with h | h | h; exact .inl (.inl h); exact .inl (.inr h); exact .inr h⟩
set_option maxRecDepth 100000 in
set_option maxHeartbeats 8000000 in
theorem refRight_any (x : Val) (hl : x.s.size ≤ 9223372036854775807) (w : World) : Calls Tryd.prog 18 #[.agg #[.int .i64 x.k, .int .i64 x.n, .string x.s]] w (Ans (.bool (rightB x)) w) := by
  obtain ⟨k, n, s⟩ := x
  simp only
  have HB := Lib.hid (alloc_below w (.cells #[.int .i64 k, .int .i64 n, .string s] 25))
  have HV : Hid (rightB ⟨k, n, s⟩ = if k = 0 ∨ k = 1 then isT ⟨k, n, s⟩ else if k = 2 ∨ k = 3 then decide (s = ⟨#[]⟩) else if k = 4 ∨ k = 5 then decide (n = 0 ∧ s.size ≤ 200) else false) := Lib.hid rfl
  obtain ⟨res, hres⟩ : ∃ res, Hid (rightB ⟨k, n, s⟩ = res) := ⟨_, Lib.hid rfl⟩
  rw [hres.out]
  rw [hres.out] at HV
  have hs1 : s = ⟨#[]⟩ ∨ ¬ s = ⟨#[]⟩ := Classical.em _
  have hk : k = 0 ∨ k = 1 ∨ k = 2 ∨ k = 3 ∨ k = 4 ∨ k = 5 ∨ (k ≠ 0 ∧ k ≠ 1 ∧ k ≠ 2 ∧ k ≠ 3 ∧ k ≠ 4 ∧ k ≠ 5) := by omega
  clear hl
  rcases hk with rfl | rfl | rfl | rfl | rfl | rfl | ⟨a0, a1, a2, a3, a4, a5⟩
  · by_cases hn : n = 0
    · subst hn
      rcases hs1 with rfl | hs1
      · have HE : Hid (res = true) := Lib.hid (by rw [HV.out]; rfl)
        go_enter Tryd.func18, Tryd.ntmps18
        go_wp2_with fail
        go_ret
        exact ⟨(by rw [HE.out]; rfl), HB.out⟩
      · have HE : Hid (res = false) := Lib.hid (by rw [HV.out, if_pos (.inl rfl), isT_form]; exact decide_eq_false (by rintro (⟨_, _, h⟩ | ⟨h, _⟩ | ⟨h, _⟩); exact hs1 h; omega; omega))
        have he : s.toList.isEmpty = false := by have := nonempty_bytes hs1; simpa using this
        clear hs1
        go_enter Tryd.func18, Tryd.ntmps18
        go_wp2_with fail
        go_ret
        exact ⟨(by rw [HE.out]; rfl), HB.out⟩
    · have hz : (n == 0) = false := beq_false_of_ne hn
      have HE : Hid (res = false) := Lib.hid (by rw [HV.out, if_pos (.inl rfl), isT_form]; exact decide_eq_false (by rintro (⟨_, h, _⟩ | ⟨h, _⟩ | ⟨h, _⟩); exact hn h; omega; omega))
      clear hn hs1
      go_enter Tryd.func18, Tryd.ntmps18
      go_wp2_with fail
      go_ret
      exact ⟨(by rw [HE.out]; rfl), HB.out⟩
  · have hn : n = 0 ∨ n = 1 ∨ (¬ n = 0 ∧ ¬ n = 1) := by omega
    rcases hn with rfl | rfl | ⟨hn0, hn1⟩
    · rcases hs1 with rfl | hs1
      · have HE : Hid (res = true) := Lib.hid (by rw [HV.out]; rfl)
        go_enter Tryd.func18, Tryd.ntmps18
        go_wp2_with fail
        go_ret
        exact ⟨(by rw [HE.out]; rfl), HB.out⟩
      · have HE : Hid (res = false) := Lib.hid (by rw [HV.out, if_pos (.inr rfl), isT_form]; exact decide_eq_false (by rintro (⟨h, _⟩ | ⟨_, _, h⟩ | ⟨_, _, h⟩); omega; exact hs1 h; exact hs1 h))
        have he : s.toList.isEmpty = false := by have := nonempty_bytes hs1; simpa using this
        clear hs1
        go_enter Tryd.func18, Tryd.ntmps18
        go_wp2_with fail
        go_ret
        exact ⟨(by rw [HE.out]; rfl), HB.out⟩
    · rcases hs1 with rfl | hs1
      · have HE : Hid (res = true) := Lib.hid (by rw [HV.out]; rfl)
        go_enter Tryd.func18, Tryd.ntmps18
        go_wp2_with fail
        go_ret
        exact ⟨(by rw [HE.out]; rfl), HB.out⟩
      · have HE : Hid (res = false) := Lib.hid (by rw [HV.out, if_pos (.inr rfl), isT_form]; exact decide_eq_false (by rintro (⟨h, _⟩ | ⟨_, _, h⟩ | ⟨_, _, h⟩); omega; exact hs1 h; exact hs1 h))
        have he : s.toList.isEmpty = false := by have := nonempty_bytes hs1; simpa using this
        clear hs1
        go_enter Tryd.func18, Tryd.ntmps18
        go_wp2_with fail
        go_ret
        exact ⟨(by rw [HE.out]; rfl), HB.out⟩
    · have hz : (n == 0) = false := beq_false_of_ne hn0
      have hz1 : (n == 1) = false := beq_false_of_ne hn1
      have HE : Hid (res = false) := Lib.hid (by rw [HV.out, if_pos (.inr rfl), isT_form]; exact decide_eq_false (by rintro (⟨h, _⟩ | ⟨_, h, _⟩ | ⟨_, h, _⟩); omega; exact hn0 h; exact hn1 h))
      clear hn0 hn1 hs1
      go_enter Tryd.func18, Tryd.ntmps18
      go_wp2_with fail
      go_ret
      exact ⟨(by rw [HE.out]; rfl), HB.out⟩
  · rcases hs1 with rfl | hs1
    · have HE : Hid (res = true) := Lib.hid (by rw [HV.out]; rfl)
      go_enter Tryd.func18, Tryd.ntmps18
      go_wp2_with fail
      go_ret
      exact ⟨(by rw [HE.out]; rfl), HB.out⟩
    · have HE : Hid (res = false) := Lib.hid (by rw [HV.out, if_neg (by omega), if_pos (by omega)]; exact decide_eq_false hs1)
      have he : s.toList.isEmpty = false := by have := nonempty_bytes hs1; simpa using this
      clear hs1
      go_enter Tryd.func18, Tryd.ntmps18
      go_wp2_with fail
      go_ret
      exact ⟨(by rw [HE.out]; rfl), HB.out⟩
  · rcases hs1 with rfl | hs1
    · have HE : Hid (res = true) := Lib.hid (by rw [HV.out]; rfl)
      go_enter Tryd.func18, Tryd.ntmps18
      go_wp2_with fail
      go_ret
      exact ⟨(by rw [HE.out]; rfl), HB.out⟩
    · have HE : Hid (res = false) := Lib.hid (by rw [HV.out, if_neg (by omega), if_pos (by omega)]; exact decide_eq_false hs1)
      have he : s.toList.isEmpty = false := by have := nonempty_bytes hs1; simpa using this
      clear hs1
      go_enter Tryd.func18, Tryd.ntmps18
      go_wp2_with fail
      go_ret
      exact ⟨(by rw [HE.out]; rfl), HB.out⟩
  · by_cases hn : n = 0
    · subst hn
      by_cases hs : s.size ≤ 200
      · have HE : Hid (res = true) := Lib.hid (by rw [HV.out, if_neg (by omega), if_neg (by omega), if_pos (by omega)]; exact decide_eq_true ⟨rfl, hs⟩)
        have hsi : (s.size : Int) ≤ 200 := by omega
        clear hs hs1
        go_enter Tryd.func18, Tryd.ntmps18
        go_wp2_with fail
        go_ret
        exact ⟨(by rw [HE.out]; rfl), HB.out⟩
      · have HE : Hid (res = false) := Lib.hid (by rw [HV.out, if_neg (by omega), if_neg (by omega), if_pos (by omega)]; exact decide_eq_false fun h => hs h.2)
        have hsi : ¬ (s.size : Int) ≤ 200 := by omega
        clear hs hs1
        go_enter Tryd.func18, Tryd.ntmps18
        go_wp2_with fail
        go_ret
        exact ⟨(by rw [HE.out]; rfl), HB.out⟩
    · have hz : (n == 0) = false := beq_false_of_ne hn
      have HE : Hid (res = false) := Lib.hid (by rw [HV.out, if_neg (by omega), if_neg (by omega), if_pos (by omega)]; exact decide_eq_false fun h => hn h.1)
      clear hn hs1
      go_enter Tryd.func18, Tryd.ntmps18
      go_wp2_with fail
      go_ret
      exact ⟨(by rw [HE.out]; rfl), HB.out⟩
  · by_cases hn : n = 0
    · subst hn
      by_cases hs : s.size ≤ 200
      · have HE : Hid (res = true) := Lib.hid (by rw [HV.out, if_neg (by omega), if_neg (by omega), if_pos (by omega)]; exact decide_eq_true ⟨rfl, hs⟩)
        have hsi : (s.size : Int) ≤ 200 := by omega
        clear hs hs1
        go_enter Tryd.func18, Tryd.ntmps18
        go_wp2_with fail
        go_ret
        exact ⟨(by rw [HE.out]; rfl), HB.out⟩
      · have HE : Hid (res = false) := Lib.hid (by rw [HV.out, if_neg (by omega), if_neg (by omega), if_pos (by omega)]; exact decide_eq_false fun h => hs h.2)
        have hsi : ¬ (s.size : Int) ≤ 200 := by omega
        clear hs hs1
        go_enter Tryd.func18, Tryd.ntmps18
        go_wp2_with fail
        go_ret
        exact ⟨(by rw [HE.out]; rfl), HB.out⟩
    · have hz : (n == 0) = false := beq_false_of_ne hn
      have HE : Hid (res = false) := Lib.hid (by rw [HV.out, if_neg (by omega), if_neg (by omega), if_pos (by omega)]; exact decide_eq_false fun h => hn h.1)
      clear hn hs1
      go_enter Tryd.func18, Tryd.ntmps18
      go_wp2_with fail
      go_ret
      exact ⟨(by rw [HE.out]; rfl), HB.out⟩
  · have k0 : (k == 0) = false := beq_false_of_ne a0
    have k1 : (k == 1) = false := beq_false_of_ne a1
    have k2 : (k == 2) = false := beq_false_of_ne a2
    have k3 : (k == 3) = false := beq_false_of_ne a3
    have k4 : (k == 4) = false := beq_false_of_ne a4
    have k5 : (k == 5) = false := beq_false_of_ne a5
    have HE : Hid (res = false) := Lib.hid (by rw [HV.out, if_neg (by omega), if_neg (by omega), if_neg (by omega)])
    clear a0 a1 a2 a3 a4 a5 hs1
    go_enter Tryd.func18, Tryd.ntmps18
    go_wp2_with fail
    go_ret
    exact ⟨(by rw [HE.out]; rfl), HB.out⟩
end Go.Proofs.YtjfbhajaddgmpaaDoor
