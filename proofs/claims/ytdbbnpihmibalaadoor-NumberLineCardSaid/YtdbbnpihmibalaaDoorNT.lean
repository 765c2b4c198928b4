/- Package number: Compare at numbers. -/
import Derived.Test.YtdbbnpihmibalaaDoorNQ
namespace Go.Proofs.YtdbbnpihmibalaaDoor
open Go.RowKit

theorem cmp_3 (a b : Int) : cmpI a b = -1 ∨ cmpI a b = 0 ∨ cmpI a b = 1 := by
  rcases Int.lt_trichotomy a b with h | h | h
  · exact .inl (cmpI_lt h)
  · exact .inr (.inl (cmpI_eq h))
  · exact .inr (.inr (cmpI_gt h))
theorem sign_3 (k n j m : Int) : signN k n j m = -1 ∨ signN k n j m = 0 ∨ signN k n j m = 1 := by
  unfold signN or2I
  split
  · exact cmp_3 _ _
  · exact cmp_3 _ _
theorem num_nz {k n : Int} (h : k = 2 ∨ k = 3) : termP k n ∧ (k == 0) = false := by rcases h with rfl | rfl; exact ⟨.inl rfl, rfl⟩; exact ⟨.inr (.inl rfl), rfl⟩
set_option maxRecDepth 100000 in
set_option maxHeartbeats 8000000 in
theorem compare_num (op k n j m : Int) (hop : 8 ≤ op ∧ op ≤ 13) (hk : k = 2 ∨ k = 3) (hj : j = 2 ∨ j = 3) (hn : i64ok n) (hm : i64ok m) (w : World) :
    Calls Tryd.prog 8 #[.int .i64 op, .agg #[.int .i64 k, .int .i64 n, .string ⟨#[]⟩], .agg #[.int .i64 j, .int .i64 m, .string ⟨#[]⟩]] w
      fun e w' => e = .returned (.tuple #[.agg #[.int .i64 1, .int .i64 (if holdsB op (signN k n j m) then 1 else 0), .string ⟨#[]⟩], .nilIface]) ∧ Below w.heap.size w w' := by
  have HB := Lib.hid (RB.start w k n j m)
  have TA := Lib.hid (right_at k n (right_num k n hk))
  have TB := Lib.hid (right_at j m (right_num j m hj))
  have SG := Lib.hid (sign_num k n j m hk hj hn hm)
  have HH := Lib.hid (holds_any op (signN k n j m) hop (sign_3 k n j m))
  have k0 := (num_nz (n := n) hk).2
  have j0 := (num_nz (n := m) hj).2
  have h8 : ¬ op < 8 := by omega
  have h13 : ¬ 13 < op := by omega
  clear hop hk hj hn hm
  generalize signN k n j m = s at *
  cases hh : holdsB op s with
  | false =>
    rw [hh] at HH
    rw [if_neg (by simp)]
    clear hh
    go_enter Tryd.func8, Tryd.ntmps8
    go_wp2_with (first
      | (go_at_call 20; first | ((with_reducible refine (TA.out _).mono ?_); rintro e w2 ⟨rfl, hb⟩) | ((with_reducible refine (TB.out _).mono ?_); rintro e w2 ⟨rfl, hb⟩)
         have HB := Lib.hid (HB.out.next hb)
         obtain ⟨a0, a1, a2⟩ := box3 HB.out.a
         obtain ⟨b0, b1, b2⟩ := box3 HB.out.b
         obtain ⟨r0, r1, r2⟩ := box3 HB.out.r
         have z0 := frozen3 HB.out.r 0
         have z1 := frozen3 HB.out.r 1
         have z2 := frozen3 HB.out.r 2
         have HL := Lib.hid HB.out.bel
         clear hb)
      | (go_at_call 10; refine (SG.out _).mono ?_; rintro e w2 ⟨rfl, hb⟩
         have HB := Lib.hid (HB.out.next hb)
         obtain ⟨a0, a1, a2⟩ := box3 HB.out.a
         obtain ⟨b0, b1, b2⟩ := box3 HB.out.b
         obtain ⟨r0, r1, r2⟩ := box3 HB.out.r
         have z0 := frozen3 HB.out.r 0
         have z1 := frozen3 HB.out.r 1
         have z2 := frozen3 HB.out.r 2
         have HL := Lib.hid HB.out.bel
         clear hb)
      | (go_at_call 21; refine (HH.out _).mono ?_; rintro e w2 ⟨rfl, rfl⟩))
    exact bodyPost_ret (v := .tuple #[.agg #[.int .i64 1, .int .i64 0, .string ⟨#[]⟩], .nilIface]) (by simp [results, Tryd.results8, go_sem, r0, r1, r2]) rfl ⟨rfl, set3_below0 HL.out (by omega) _ _ _⟩
  | true =>
    rw [hh] at HH
    rw [if_pos rfl]
    clear hh
    go_enter Tryd.func8, Tryd.ntmps8
    go_wp2_with (first
      | (go_at_call 20; first | ((with_reducible refine (TA.out _).mono ?_); rintro e w2 ⟨rfl, hb⟩) | ((with_reducible refine (TB.out _).mono ?_); rintro e w2 ⟨rfl, hb⟩)
         have HB := Lib.hid (HB.out.next hb)
         obtain ⟨a0, a1, a2⟩ := box3 HB.out.a
         obtain ⟨b0, b1, b2⟩ := box3 HB.out.b
         obtain ⟨r0, r1, r2⟩ := box3 HB.out.r
         have z0 := frozen3 HB.out.r 0
         have z1 := frozen3 HB.out.r 1
         have z2 := frozen3 HB.out.r 2
         have HL := Lib.hid HB.out.bel
         clear hb)
      | (go_at_call 10; refine (SG.out _).mono ?_; rintro e w2 ⟨rfl, hb⟩
         have HB := Lib.hid (HB.out.next hb)
         obtain ⟨a0, a1, a2⟩ := box3 HB.out.a
         obtain ⟨b0, b1, b2⟩ := box3 HB.out.b
         obtain ⟨r0, r1, r2⟩ := box3 HB.out.r
         have z0 := frozen3 HB.out.r 0
         have z1 := frozen3 HB.out.r 1
         have z2 := frozen3 HB.out.r 2
         have HL := Lib.hid HB.out.bel
         clear hb)
      | (go_at_call 21; refine (HH.out _).mono ?_; rintro e w2 ⟨rfl, rfl⟩))
    exact bodyPost_ret (v := .tuple #[.agg #[.int .i64 1, .int .i64 1, .string ⟨#[]⟩], .nilIface]) (by simp [results, Tryd.results8, go_sem, r0, r1, r2]) rfl ⟨rfl, set3_below0 HL.out (by omega) _ _ _⟩
end Go.Proofs.YtdbbnpihmibalaaDoor
