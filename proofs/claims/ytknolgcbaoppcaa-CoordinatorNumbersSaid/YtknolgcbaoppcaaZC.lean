/- Package letter: Right. -/
import Derived.Test.YtknolgcbaoppcaaZB
namespace Go.Proofs.Ytknolgcbaoppcaa
open Go.RowKit

/-- a letter as it lies -/
def ltrV (l : Ltr) (A : Option Addr) (n cap : Nat) : Value := .agg #[.int .i64 l.k, .int .i64 l.f, .int .i64 l.t, .int .i64 l.x, .slice A n cap]
theorem right_bad {l : Ltr} (h : headOk l.k l.f l.t l.x = false) : l.right = false := by unfold Ltr.right; rw [h]; rfl
theorem head_k {k f t x : Int} (h : ¬ (1 ≤ k ∧ k ≤ 8)) : headOk k f t x = false := by unfold headOk; rw [decide_eq_false h]; rfl
theorem head_ft {k f t x : Int} (h : ¬ ((0 ≤ f ∧ f < 16) ∧ 0 ≤ t ∧ t < 16)) : headOk k f t x = false := by unfold headOk; rw [decide_eq_false h, Bool.and_false]; rfl
theorem head_x {k f t x : Int} (h : ¬ (0 ≤ x ∧ x ≤ 1099511627776)) : headOk k f t x = false := by unfold headOk; rw [decide_eq_false h, Bool.and_false]
theorem nodeB_yes {n : Int} (h : 0 ≤ n ∧ n < 16) : nodeB n = true := by unfold nodeB; rw [decide_eq_true h.1, decide_eq_true h.2]; rfl
theorem nodeB_no {n : Int} (h : ¬ (0 ≤ n ∧ n < 16)) : nodeB n = false := by
  unfold nodeB
  by_cases h1 : 0 ≤ n
  · rw [decide_eq_false (by omega : ¬ n < 16), Bool.and_false]
  · rw [decide_eq_false h1]; rfl
theorem head_ok {k f t x : Int} (h1 : 1 ≤ k ∧ k ≤ 8) (h2 : (0 ≤ f ∧ f < 16) ∧ 0 ≤ t ∧ t < 16) (h3 : 0 ≤ x ∧ x ≤ 1099511627776) : headOk k f t x = true := by unfold headOk; rw [decide_eq_true h1, decide_eq_true h2, decide_eq_true h3]; rfl
set_option maxRecDepth 100000 in
set_option maxHeartbeats 4000000 in
theorem rightL_any (k f t x : Int) (ns : List Int) (A : Option Addr) (n cap : Nat) (hn : ns.length = n) (hn2 : n ≤ 1000000) (w : World) (hr : RdI w w.heap.size A ns) :
    Calls Try.prog 25 #[.agg #[.int .i64 k, .int .i64 f, .int .i64 t, .int .i64 x, .slice A n cap]] w (Ans (.bool (Ltr.right ⟨k, f, t, x, ns⟩)) w) := by
  obtain ⟨w0, hw0⟩ : ∃ w0, w0 = w.alloc (.cells #[.int .i64 k, .int .i64 f, .int .i64 t, .int .i64 x, .slice A n cap] 46) := ⟨_, rfl⟩
  have HB : Hid (Below w.heap.size w w0) := Lib.hid (by rw [hw0]; exact alloc_below w _)
  have hbx : w0.heap[w.heap.size]? = some (.cells #[.int .i64 k, .int .i64 f, .int .i64 t, .int .i64 x, .slice A n cap] 46 (0, 0)) := by rw [hw0]; exact heap_alloc_new w _
  have HI := Lib.hid (increasing_any ns A n cap hn hn2 w0 ((hr.below HB.out (Nat.le_refl _)).more HB.out.size))
  obtain ⟨x0, x1, x2, x3, x4⟩ := box5 hbx
  have HF := Lib.hid (isNode_any f w0)
  have HT := Lib.hid (isNode_any t w0)
  obtain ⟨r, hr'⟩ : ∃ r, Hid (r = Ltr.right ⟨k, f, t, x, ns⟩) := ⟨_, Lib.hid rfl⟩
  rw [← hr'.out]
  have HN := Lib.hid hn
  clear hr hbx hn hn2
  subst hw0
  go_enter Try.func25, Try.ntmps25
  by_cases h1 : 1 ≤ k ∧ k ≤ 8
  · by_cases h2 : 0 ≤ f ∧ f < 16
    · rw [nodeB_yes h2] at HF
      by_cases h3 : 0 ≤ t ∧ t < 16
      · rw [nodeB_yes h3] at HT
        by_cases h4 : 0 ≤ x ∧ x ≤ 1099511627776
        · have HO := Lib.hid (head_ok h1 ⟨h2, h3⟩ h4)
          have k1 : ¬ k < 1 := by omega
          have k2 : ¬ 8 < k := by omega
          have e1 : ¬ x < 0 := by omega
          have e2 : ¬ 1099511627776 < x := by omega
          by_cases hk : k = 1
          · have hk1 : (k != 1) = false := by rw [hk]; rfl
            have HY : Hid (r = upN (-1) ns) := Lib.hid (by rw [hr'.out]; unfold Ltr.right; rw [HO.out, if_pos hk, Bool.true_and])
            clear h1 h2 h3 h4 hk
            go_wp2_with (first
              | (go_at_call 43; refine HF.out.mono ?_; rintro e w2 ⟨rfl, rfl⟩)
              | (go_at_call 43; refine HT.out.mono ?_; rintro e w2 ⟨rfl, rfl⟩)
              | (go_at_call 44; refine HI.out.mono ?_; rintro e w2 ⟨rfl, hb⟩; have HZ := Lib.hid (HB.out.trans (hb.mono HB.out.size)); clear hb))
            go_ret
            exact ⟨by rw [HY.out]; rfl, HZ.out⟩
          · have hk1 : (k != 1) = true := by simpa using hk
            have HY : Hid (r = decide (ns = [])) := Lib.hid (by rw [hr'.out]; unfold Ltr.right; rw [HO.out, if_neg hk, Bool.true_and])
            have HQ : Hid (decide (ns = []) = ((n : Int) == 0)) := Lib.hid (by
              rw [← HN.out, Bool.eq_iff_iff, decide_eq_true_eq, beq_iff_eq]
              constructor
              · rintro rfl; rfl
              · intro h; exact List.length_eq_zero_iff.1 (by omega))
            clear h1 h2 h3 h4 hk
            go_wp2_with (first
              | (go_at_call 43; refine HF.out.mono ?_; rintro e w2 ⟨rfl, rfl⟩)
              | (go_at_call 43; refine HT.out.mono ?_; rintro e w2 ⟨rfl, rfl⟩))
            go_ret
            exact ⟨by rw [HY.out, HQ.out]; rfl, HB.out⟩
        · have HY : Hid (r = false) := Lib.hid (by rw [hr'.out]; exact right_bad (head_x h4))
          have k1 : ¬ k < 1 := by omega
          have k2 : ¬ 8 < k := by omega
          have e1 : decide (x < 0) = true ∨ (decide (x < 0) = false ∧ decide (1099511627776 < x) = true) := by
            by_cases h : x < 0
            · exact .inl (decide_eq_true h)
            · exact .inr ⟨decide_eq_false h, decide_eq_true (by omega)⟩
          clear h1 h2 h3 h4
          rcases e1 with e1 | ⟨e1, e2⟩ <;> simp only [decide_eq_true_eq, decide_eq_false_iff_not] at *
          all_goals
            go_wp2_with (first
              | (go_at_call 43; refine HF.out.mono ?_; rintro e w2 ⟨rfl, rfl⟩)
              | (go_at_call 43; refine HT.out.mono ?_; rintro e w2 ⟨rfl, rfl⟩))
            go_ret
            exact ⟨by rw [HY.out]; rfl, HB.out⟩
      · rw [nodeB_no h3] at HT
        have HY : Hid (r = false) := Lib.hid (by rw [hr'.out]; exact right_bad (head_ft fun h => h3 h.2))
        have k1 : ¬ k < 1 := by omega
        have k2 : ¬ 8 < k := by omega
        clear h1 h2 h3
        go_wp2_with (first
          | (go_at_call 43; refine HF.out.mono ?_; rintro e w2 ⟨rfl, rfl⟩)
          | (go_at_call 43; refine HT.out.mono ?_; rintro e w2 ⟨rfl, rfl⟩))
        go_ret
        exact ⟨by rw [HY.out]; rfl, HB.out⟩
    · rw [nodeB_no h2] at HF
      have HY : Hid (r = false) := Lib.hid (by rw [hr'.out]; exact right_bad (head_ft fun h => h2 h.1))
      have k1 : ¬ k < 1 := by omega
      have k2 : ¬ 8 < k := by omega
      clear h1 h2
      go_wp2_with (go_at_call 43; refine HF.out.mono ?_; rintro e w2 ⟨rfl, rfl⟩)
      go_ret
      exact ⟨by rw [HY.out]; rfl, HB.out⟩
  · have HY : Hid (r = false) := Lib.hid (by rw [hr'.out]; exact right_bad (head_k h1))
    by_cases k1 : k < 1
    · clear h1
      go_wp2_with fail
      go_ret
      exact ⟨by rw [HY.out]; rfl, HB.out⟩
    · have k3 : 8 < k := by omega
      clear h1
      go_wp2_with fail
      go_ret
      exact ⟨by rw [HY.out]; rfl, HB.out⟩
end Go.Proofs.Ytknolgcbaoppcaa
