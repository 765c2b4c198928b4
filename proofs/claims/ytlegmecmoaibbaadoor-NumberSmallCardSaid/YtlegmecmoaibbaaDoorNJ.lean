/- NumberSmall: the law's own body answers true. -/
import Derived.Test.YtlegmecmoaibbaaDoorNI
import Derived.Test.YtlegmecmoaibbaaDoorHB
namespace Go.Proofs.YtlegmecmoaibbaaDoor
open Go.RowKit
attribute [local go_sem ↓] eqV

theorem eqB_refl (k n : Int) : eqB k n ⟨#[]⟩ k n ⟨#[]⟩ = true := by unfold eqB; simp
theorem wrap_in {n : Int} (h1 : -9223372036854775808 ≤ n) (h2 : n ≤ 9223372036854775807) : wrap64 n = n := by unfold wrap64; omega
set_option maxRecDepth 100000 in
set_option maxHeartbeats 40000000 in
theorem small_law (a b : Int) (w : World) (hg : Handle w) : Calls Tryd.prog 8 #[.int .i64 a, .int .i64 b] w (Ans (.bool true) w) := by
  have HG := Lib.hid hg
  have WH := Lib.hid whole_any
  have DC := Lib.hid dec_any
  have AL := Lib.hid aliveN_any
  have HB := Lib.hid (Below.refl w.heap.size w)
  have HL := Lib.hid (Held.nil w)
  clear hg
  by_cases hs : smallI a ∧ smallI b
  · obtain ⟨ha, hb⟩ := hs
    have oa : i64ok a := by unfold smallI at ha; unfold i64ok; omega
    have ob : i64ok b := by unfold smallI at hb; unfold i64ok; omega
    obtain ⟨s, hs⟩ : ∃ s, Hid (s = a + b) := ⟨_, Lib.hid rfl⟩
    obtain ⟨d, hd⟩ : ∃ d, Hid (d = a - b) := ⟨_, Lib.hid rfl⟩
    obtain ⟨p, hp⟩ : ∃ p, Hid (p = a * b) := ⟨_, Lib.hid rfl⟩
    obtain ⟨q, hq⟩ : ∃ q, Hid (q = p.tdiv 10000) := ⟨_, Lib.hid rfl⟩
    obtain ⟨m, hm⟩ : ∃ m, Hid (m = a * 10000 + b) := ⟨_, Lib.hid rfl⟩
    have R1 := Lib.hid (reckon_ok (by rw [hs.out]; exact small_add a b ha hb : reckonN 3 2 a 2 b = .ok 2 s) (.inl rfl) (.inl rfl) oa ob)
    have R2 := Lib.hid (reckon_ok (by rw [hd.out]; exact small_sub a b ha hb : reckonN 4 2 a 2 b = .ok 2 d) (.inl rfl) (.inl rfl) oa ob)
    have R3 := Lib.hid (reckon_ok (by rw [hp.out]; exact small_mul a b ha hb : reckonN 5 2 a 2 b = .ok 2 p) (.inl rfl) (.inl rfl) oa ob)
    have R4 := Lib.hid (reckon_ok (by rw [hq.out, hp.out]; exact small_mulD a b ha hb : reckonN 5 3 a 3 b = .ok 3 q) (.inr (.inl rfl)) (.inr (.inl rfl)) oa ob)
    have R5 := Lib.hid (reckon_ok (by rw [hm.out]; exact small_mix a b ha hb : reckonN 3 2 a 3 b = .ok 3 m) (.inl rfl) (.inr (.inl rfl)) oa ob)
    have hpb := mul_small ha hb
    have f1 := eqB_refl 2 s
    have f2 := eqB_refl 2 d
    have f3 := eqB_refl 2 p
    have f4 := eqB_refl 3 q
    have f5 := eqB_refl 3 m
    obtain ⟨x, hx⟩ : ∃ x, Hid (x = a.tdiv b) := ⟨_, Lib.hid rfl⟩
    obtain ⟨y, hy⟩ : ∃ y, Hid (y = (a * 10000).tdiv b) := ⟨_, Lib.hid rfl⟩
    have f6 := eqB_refl 2 x
    have f7 := eqB_refl 3 y
    have ha' := Lib.hid ha
    have hb' := Lib.hid hb
    unfold smallI at ha hb
    have e1 : wrap64 (a + b) = s := by rw [hs.out]; exact wrap_in (by omega) (by omega)
    have e2 : wrap64 (a - b) = d := by rw [hd.out]; exact wrap_in (by omega) (by omega)
    have e3 : wrap64 (a * b) = p := by rw [hp.out]; exact wrap_in (by omega) (by omega)
    rw [← hp.out] at hpb
    have e5 : wrap64 (wrap64 (a * 10000) + b) = m := by rw [hm.out, wrap_in (n := a * 10000) (by omega) (by omega)]; exact wrap_in (by omega) (by omega)
    have i1 : IntKind.i64.wrap (a + b) = s := by rw [hs.out, IntKind.wrap_i64]; omega
    have i2 : IntKind.i64.wrap (a - b) = d := by rw [hd.out, IntKind.wrap_i64]; omega
    have i3 : IntKind.i64.wrap (a * b) = p := by rw [← hp.out, IntKind.wrap_i64]; omega
    have i4 : IntKind.i64.wrap (p.tdiv 10000) = q := by have h := tdiv_le p 10000; rw [← hq.out] at h ⊢; rw [IntKind.wrap_i64]; omega
    have i6 : IntKind.i64.wrap (a * 10000) = a * 10000 := by rw [IntKind.wrap_i64]; omega
    have i5 : IntKind.i64.wrap (a * 10000 + b) = m := by rw [hm.out, IntKind.wrap_i64]; omega
    have i7 : IntKind.i64.wrap (a.tdiv b) = x := by have h := tdiv_le a b; rw [← hx.out] at h ⊢; rw [IntKind.wrap_i64]; omega
    have i8 : IntKind.i64.wrap ((a * 10000).tdiv b) = y := by have h := tdiv_le (a * 10000) b; rw [← hy.out] at h ⊢; rw [IntKind.wrap_i64]; omega
    have a1 : ¬ a ≤ -1048576 := by omega
    have a2 : ¬ 1048576 ≤ a := by omega
    have b1 : ¬ b ≤ -1048576 := by omega
    have b2 : ¬ 1048576 ≤ b := by omega
    go_enter Tryd.func8, Tryd.ntmps8
    go_wp2_with (first
      | (go_at_call 28; (with_reducible refine (R1.out _).mono ?_); rintro e w1 ⟨rfl, hb⟩
         have HL := Lib.hid ((HL.out.next hb).alloc (.cells #[.int .i64 2, .int .i64 s, .string ⟨#[]⟩] 24 (0, 0)))
         have HB := Lib.hid (HB.out.trans ((hb.trans ((alloc_below _ (.cells #[.int .i64 2, .int .i64 s, .string ⟨#[]⟩] 24)).mono hb.size)).mono HB.out.size)); clear hb)
      | (go_at_call 28; (with_reducible refine (R2.out _).mono ?_); rintro e w2 ⟨rfl, hb⟩
         have HL := Lib.hid ((HL.out.next hb).alloc (.cells #[.int .i64 2, .int .i64 d, .string ⟨#[]⟩] 24 (0, 0)))
         have HB := Lib.hid (HB.out.trans ((hb.trans ((alloc_below _ (.cells #[.int .i64 2, .int .i64 d, .string ⟨#[]⟩] 24)).mono hb.size)).mono HB.out.size)); clear hb)
      | (go_at_call 28; (with_reducible refine (R3.out _).mono ?_); rintro e w3 ⟨rfl, hb⟩
         have HL := Lib.hid ((HL.out.next hb).alloc (.cells #[.int .i64 2, .int .i64 p, .string ⟨#[]⟩] 24 (0, 0)))
         have HB := Lib.hid (HB.out.trans ((hb.trans ((alloc_below _ (.cells #[.int .i64 2, .int .i64 p, .string ⟨#[]⟩] 24)).mono hb.size)).mono HB.out.size)); clear hb)
      | (go_at_call 28; (with_reducible refine (R4.out _).mono ?_); rintro e w4 ⟨rfl, hb⟩
         have HL := Lib.hid ((HL.out.next hb).alloc (.cells #[.int .i64 3, .int .i64 q, .string ⟨#[]⟩] 24 (0, 0)))
         have HB := Lib.hid (HB.out.trans ((hb.trans ((alloc_below _ (.cells #[.int .i64 3, .int .i64 q, .string ⟨#[]⟩] 24)).mono hb.size)).mono HB.out.size)); clear hb)
      | (go_at_call 28; (with_reducible refine (R5.out _).mono ?_); rintro e w5 ⟨rfl, hb⟩
         have HL := Lib.hid ((HL.out.next hb).alloc (.cells #[.int .i64 3, .int .i64 m, .string ⟨#[]⟩] 24 (0, 0)))
         have HB := Lib.hid (HB.out.trans ((hb.trans ((alloc_below _ (.cells #[.int .i64 3, .int .i64 m, .string ⟨#[]⟩] 24)).mono hb.size)).mono HB.out.size)); clear hb)
      | (go_at_call 26; refine (WH.out _ _).mono ?_; rintro e wq ⟨rfl, hb⟩
         (first | have HR15 := Lib.hid (HR15.out.below hb) | skip)
         have HL := Lib.hid (HL.out.next hb)
         have HB := Lib.hid (HB.out.trans (hb.mono HB.out.size)); clear hb)
      | (go_at_call 27; refine (DC.out _ _).mono ?_; rintro e wq ⟨rfl, hb⟩
         (first | have HR15 := Lib.hid (HR15.out.below hb) | skip)
         have HL := Lib.hid (HL.out.next hb)
         have HB := Lib.hid (HB.out.trans (hb.mono HB.out.size)); clear hb))
    have HL := Lib.hid (HL.out.next (drew_below _))
    have HB := Lib.hid HB.out.drew
    go_region_held3 (fun W => (W.cell? ⟨w1.heap.size, 0, none⟩ = some (.int .i64 2) ∧ W.cell? ⟨w1.heap.size, 1, none⟩ = some (.int .i64 s) ∧ W.cell? ⟨w1.heap.size, 2, none⟩ = some (.string ⟨#[]⟩)) ∧
      (W.cell? ⟨w2.heap.size, 0, none⟩ = some (.int .i64 2) ∧ W.cell? ⟨w2.heap.size, 1, none⟩ = some (.int .i64 d) ∧ W.cell? ⟨w2.heap.size, 2, none⟩ = some (.string ⟨#[]⟩)) ∧
      (W.cell? ⟨w3.heap.size, 0, none⟩ = some (.int .i64 2) ∧ W.cell? ⟨w3.heap.size, 1, none⟩ = some (.int .i64 p) ∧ W.cell? ⟨w3.heap.size, 2, none⟩ = some (.string ⟨#[]⟩)) ∧
      (W.cell? ⟨w4.heap.size, 0, none⟩ = some (.int .i64 3) ∧ W.cell? ⟨w4.heap.size, 1, none⟩ = some (.int .i64 q) ∧ W.cell? ⟨w4.heap.size, 2, none⟩ = some (.string ⟨#[]⟩)) ∧
      (W.cell? ⟨w5.heap.size, 0, none⟩ = some (.int .i64 3) ∧ W.cell? ⟨w5.heap.size, 1, none⟩ = some (.int .i64 m) ∧ W.cell? ⟨w5.heap.size, 2, none⟩ = some (.string ⟨#[]⟩)))
      (first | exact ⟨box3 (HL.out (w1.heap.size, .cells #[.int .i64 2, .int .i64 s, .string ⟨#[]⟩] 24 (0, 0)) (by simp)), box3 (HL.out (w2.heap.size, .cells #[.int .i64 2, .int .i64 d, .string ⟨#[]⟩] 24 (0, 0)) (by simp)), box3 (HL.out (w3.heap.size, .cells #[.int .i64 2, .int .i64 p, .string ⟨#[]⟩] 24 (0, 0)) (by simp)), box3 (HL.out (w4.heap.size, .cells #[.int .i64 3, .int .i64 q, .string ⟨#[]⟩] 24 (0, 0)) (by simp)), box3 (HL.out (w5.heap.size, .cells #[.int .i64 3, .int .i64 m, .string ⟨#[]⟩] 24 (0, 0)) (by simp))⟩ | go_keep)
      (first
        | (go_at_call 26; refine (WH.out _ _).mono ?_; rintro e wq ⟨rfl, hb⟩
           (first | have HR15 := Lib.hid (HR15.out.below hb) | skip)
           have HL := Lib.hid (HL.out.next hb)
           have HB := Lib.hid (HB.out.trans (hb.mono HB.out.size)); clear hb)
        | (go_at_call 27; refine (DC.out _ _).mono ?_; rintro e wq ⟨rfl, hb⟩
           (first | have HR15 := Lib.hid (HR15.out.below hb) | skip)
           have HL := Lib.hid (HL.out.next hb)
           have HB := Lib.hid (HB.out.trans (hb.mono HB.out.size)); clear hb))
    by_cases hb0 : b = 0
    · subst hb0
      have R6 := Lib.hid (reckon_fault (small_zero 2 a (.inl rfl) ha'.out) (.inl rfl) (.inl rfl) oa (by unfold i64ok; omega) (by omega) (by unfold i64ok; omega) (by unfold i64ok; omega))
      have R7 := Lib.hid (reckon_fault (small_zero 3 a (.inr rfl) ha'.out) (.inr (.inl rfl)) (.inr (.inl rfl)) oa (by unfold i64ok; omega) (by omega) (by unfold i64ok; omega) (by unfold i64ok; omega))
      go_wp2_with (first
        | (go_at_call 28; (with_reducible refine (R6.out _).mono ?_); rintro e w15 ⟨N15, rfl, hr, hb⟩
           have hba := alloc_below w15 (.cells #[.int .i64 0, .int .i64 0, .string ⟨#[]⟩] 24)
           have HR15 := Lib.hid (hr.below hba)
           (first | have HR15 := Lib.hid ((HR15.out.below hb).below hba) | skip)
           have HL := Lib.hid ((HL.out.next hb).alloc (.cells #[.int .i64 0, .int .i64 0, .string ⟨#[]⟩] 24 (0, 0)))
           have HB := Lib.hid (HB.out.trans ((hb.trans (hba.mono hb.size)).mono HB.out.size)); clear hb hba hr)
        | (go_at_call 28; (with_reducible refine (R7.out _).mono ?_); rintro e w16 ⟨N16, rfl, hr, hb⟩
           have hba := alloc_below w16 (.cells #[.int .i64 0, .int .i64 0, .string ⟨#[]⟩] 24)
           have HR16 := Lib.hid (hr.below hba)
           (first | have HR15 := Lib.hid ((HR15.out.below hb).below hba) | skip)
           have HL := Lib.hid ((HL.out.next hb).alloc (.cells #[.int .i64 0, .int .i64 0, .string ⟨#[]⟩] 24 (0, 0)))
           have HB := Lib.hid (HB.out.trans ((hb.trans (hba.mono hb.size)).mono HB.out.size)); clear hb hba hr)
        | (go_at_call 26; refine (WH.out _ _).mono ?_; rintro e wq ⟨rfl, hb⟩
           (first | have HR15 := Lib.hid (HR15.out.below hb) | skip)
           have HL := Lib.hid (HL.out.next hb)
           have HB := Lib.hid (HB.out.trans (hb.mono HB.out.size)); clear hb)
        | (go_at_call 27; refine (DC.out _ _).mono ?_; rintro e wq ⟨rfl, hb⟩
           (first | have HR15 := Lib.hid (HR15.out.below hb) | skip)
           have HL := Lib.hid (HL.out.next hb)
           have HB := Lib.hid (HB.out.trans (hb.mono HB.out.size)); clear hb)
        | (go_at_call 20; refine (AL.out _ (HG.out.below HB.out)).mono ?_; rintro e w9 ⟨rfl, hb⟩
           (first | have HR15 := Lib.hid (HR15.out.below hb) | skip)
           (first | have HR16 := Lib.hid (HR16.out.below hb) | skip)
           have HL := Lib.hid (HL.out.next hb)
           have HB := Lib.hid (HB.out.trans (hb.mono HB.out.size)); clear hb)
        | (go_at_call 30; first | ((with_reducible refine (code_fault HR15.out (HG.out.below HB.out)).mono ?_); rintro e wc ⟨rfl, hb⟩) | ((with_reducible refine (code_fault HR16.out (HG.out.below HB.out)).mono ?_); rintro e wc ⟨rfl, hb⟩)
           (first | have HR15 := Lib.hid (HR15.out.below hb) | skip)
           (first | have HR16 := Lib.hid (HR16.out.below hb) | skip)
           have HL := Lib.hid (HL.out.next hb)
           have HB := Lib.hid (HB.out.trans (hb.mono HB.out.size)); clear hb)
        | (go_at_call 31; first | ((with_reducible refine (at_fault HR15.out (HG.out.below HB.out)).mono ?_); rintro e wc ⟨rfl, hb⟩) | ((with_reducible refine (at_fault HR16.out (HG.out.below HB.out)).mono ?_); rintro e wc ⟨rfl, hb⟩)
           (first | have HR15 := Lib.hid (HR15.out.below hb) | skip)
           (first | have HR16 := Lib.hid (HR16.out.below hb) | skip)
           have HL := Lib.hid (HL.out.next hb)
           have HB := Lib.hid (HB.out.trans (hb.mono HB.out.size)); clear hb))
      go_ret
      exact ⟨rfl, HB.out⟩
    · have hb1 : (b == 0) = false := by simpa using hb0
      have R6 := Lib.hid (reckon_ok (by rw [hx.out]; exact small_div a b ha'.out hb'.out hb0 : reckonN 6 2 a 2 b = .ok 2 x) (.inl rfl) (.inl rfl) oa ob)
      have R7 := Lib.hid (reckon_ok (by rw [hy.out]; exact small_divD a b ha'.out hb'.out hb0 : reckonN 6 3 a 3 b = .ok 3 y) (.inr (.inl rfl)) (.inr (.inl rfl)) oa ob)
      go_wp2_with (first
        | (go_at_call 28; (with_reducible refine (R6.out _).mono ?_); rintro e w6 ⟨rfl, hb⟩
           have HL := Lib.hid ((HL.out.next hb).alloc (.cells #[.int .i64 2, .int .i64 x, .string ⟨#[]⟩] 24 (0, 0)))
           have HB := Lib.hid (HB.out.trans ((hb.trans ((alloc_below _ (.cells #[.int .i64 2, .int .i64 x, .string ⟨#[]⟩] 24)).mono hb.size)).mono HB.out.size)); clear hb)
        | (go_at_call 28; (with_reducible refine (R7.out _).mono ?_); rintro e w7 ⟨rfl, hb⟩
           have HL := Lib.hid ((HL.out.next hb).alloc (.cells #[.int .i64 3, .int .i64 y, .string ⟨#[]⟩] 24 (0, 0)))
           have HB := Lib.hid (HB.out.trans ((hb.trans ((alloc_below _ (.cells #[.int .i64 3, .int .i64 y, .string ⟨#[]⟩] 24)).mono hb.size)).mono HB.out.size)); clear hb)
        | (go_at_call 26; refine (WH.out _ _).mono ?_; rintro e wq ⟨rfl, hb⟩
           (first | have HR15 := Lib.hid (HR15.out.below hb) | skip)
           have HL := Lib.hid (HL.out.next hb)
           have HB := Lib.hid (HB.out.trans (hb.mono HB.out.size)); clear hb)
        | (go_at_call 27; refine (DC.out _ _).mono ?_; rintro e wq ⟨rfl, hb⟩
           (first | have HR15 := Lib.hid (HR15.out.below hb) | skip)
           have HL := Lib.hid (HL.out.next hb)
           have HB := Lib.hid (HB.out.trans (hb.mono HB.out.size)); clear hb))
      have HL := Lib.hid (HL.out.next (drew_below _))
      have HB := Lib.hid HB.out.drew
      go_region_held3 (fun W => (W.cell? ⟨w6.heap.size, 0, none⟩ = some (.int .i64 2) ∧ W.cell? ⟨w6.heap.size, 1, none⟩ = some (.int .i64 x) ∧ W.cell? ⟨w6.heap.size, 2, none⟩ = some (.string ⟨#[]⟩)) ∧
        (W.cell? ⟨w7.heap.size, 0, none⟩ = some (.int .i64 3) ∧ W.cell? ⟨w7.heap.size, 1, none⟩ = some (.int .i64 y) ∧ W.cell? ⟨w7.heap.size, 2, none⟩ = some (.string ⟨#[]⟩)))
        (first | exact ⟨box3 (HL.out (w6.heap.size, .cells #[.int .i64 2, .int .i64 x, .string ⟨#[]⟩] 24 (0, 0)) (by simp)), box3 (HL.out (w7.heap.size, .cells #[.int .i64 3, .int .i64 y, .string ⟨#[]⟩] 24 (0, 0)) (by simp))⟩ | go_keep)
        (first
          | (go_at_call 20; refine (AL.out _ (HG.out.below HB.out)).mono ?_; rintro e w9 ⟨rfl, hb⟩
             (first | have HR15 := Lib.hid (HR15.out.below hb) | skip)
             (first | have HR16 := Lib.hid (HR16.out.below hb) | skip)
             have HL := Lib.hid (HL.out.next hb)
             have HB := Lib.hid (HB.out.trans (hb.mono HB.out.size)); clear hb)
          | (go_at_call 26; refine (WH.out _ _).mono ?_; rintro e wq ⟨rfl, hb⟩
             (first | have HR15 := Lib.hid (HR15.out.below hb) | skip)
             have HL := Lib.hid (HL.out.next hb)
             have HB := Lib.hid (HB.out.trans (hb.mono HB.out.size)); clear hb)
          | (go_at_call 27; refine (DC.out _ _).mono ?_; rintro e wq ⟨rfl, hb⟩
             (first | have HR15 := Lib.hid (HR15.out.below hb) | skip)
             have HL := Lib.hid (HL.out.next hb)
             have HB := Lib.hid (HB.out.trans (hb.mono HB.out.size)); clear hb))
      go_wp2_with fail
      go_ret
      exact ⟨rfl, HB.out⟩
  · have fin : Hid (a ≤ -1048576 ∨ 1048576 ≤ a ∨ b ≤ -1048576 ∨ 1048576 ≤ b) := Lib.hid (by unfold smallI at hs; omega)
    clear hs
    by_cases a1 : a ≤ -1048576
    · clear fin
      go_enter Tryd.func8, Tryd.ntmps8
      go_wp2_with (first
        | (go_at_call 20; refine (AL.out _ (HG.out.below HB.out)).mono ?_; rintro e w9 ⟨rfl, hb⟩
           (first | have HR15 := Lib.hid (HR15.out.below hb) | skip)
           (first | have HR16 := Lib.hid (HR16.out.below hb) | skip)
           have HL := Lib.hid (HL.out.next hb)
           have HB := Lib.hid (HB.out.trans (hb.mono HB.out.size)); clear hb))
      go_ret
      exact ⟨rfl, HB.out⟩
    · by_cases a2 : 1048576 ≤ a
      · clear fin
        go_enter Tryd.func8, Tryd.ntmps8
        go_wp2_with (first
          | (go_at_call 20; refine (AL.out _ (HG.out.below HB.out)).mono ?_; rintro e w9 ⟨rfl, hb⟩
             (first | have HR15 := Lib.hid (HR15.out.below hb) | skip)
             (first | have HR16 := Lib.hid (HR16.out.below hb) | skip)
             have HL := Lib.hid (HL.out.next hb)
             have HB := Lib.hid (HB.out.trans (hb.mono HB.out.size)); clear hb))
        go_ret
        exact ⟨rfl, HB.out⟩
      · by_cases b1 : b ≤ -1048576
        · clear fin
          go_enter Tryd.func8, Tryd.ntmps8
          go_wp2_with (first
            | (go_at_call 20; refine (AL.out _ (HG.out.below HB.out)).mono ?_; rintro e w9 ⟨rfl, hb⟩
               (first | have HR15 := Lib.hid (HR15.out.below hb) | skip)
               (first | have HR16 := Lib.hid (HR16.out.below hb) | skip)
               have HL := Lib.hid (HL.out.next hb)
               have HB := Lib.hid (HB.out.trans (hb.mono HB.out.size)); clear hb))
          go_ret
          exact ⟨rfl, HB.out⟩
        · have b2 : 1048576 ≤ b := by have := fin.out; omega
          clear fin
          go_enter Tryd.func8, Tryd.ntmps8
          go_wp2_with (first
            | (go_at_call 20; refine (AL.out _ (HG.out.below HB.out)).mono ?_; rintro e w9 ⟨rfl, hb⟩
               (first | have HR15 := Lib.hid (HR15.out.below hb) | skip)
               (first | have HR16 := Lib.hid (HR16.out.below hb) | skip)
               have HL := Lib.hid (HL.out.next hb)
               have HB := Lib.hid (HB.out.trans (hb.mono HB.out.size)); clear hb))
          go_ret
          exact ⟨rfl, HB.out⟩
end Go.Proofs.YtlegmecmoaibbaaDoor
