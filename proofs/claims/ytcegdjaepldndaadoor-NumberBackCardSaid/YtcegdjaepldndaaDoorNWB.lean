/- NumberBack: the law's own body answers true. -/
import Derived.Test.YtcegdjaepldndaaDoorNW
namespace Go.Proofs.YtcegdjaepldndaaDoor
open Go.RowKit
attribute [local go_sem ↓] eqV

theorem BkS.world {w wx : World} {bx bz : Nat} {k j a b : Int} (h : BkS w bx bz k j a b wx) : ∃ W, W = wx ∧ BkS w bx bz k j a b W := ⟨wx, rfl, h⟩
/-- behind the division that gives the first number back -/
def BkD (W6 : World) (a : Int) (v17 v18 : Value) (wx : World) : Prop := ∃ g7 : Nat, v17 = .pointer (some ⟨g7, 0, none⟩) ∧ v18 = .nilIface ∧ wx.heap[g7]? = some (.cells #[.int .i64 2, .int .i64 a, .string ⟨#[]⟩] 25 (0, 0)) ∧ Below W6.heap.size W6 wx
theorem BkD.world {W6 wx : World} {a : Int} {v17 v18 : Value} (h : BkD W6 a v17 v18 wx) : ∃ W, W = wx ∧ BkD W6 a v17 v18 W := ⟨wx, rfl, h⟩
set_option maxRecDepth 100000 in
set_option maxHeartbeats 20000000 in
theorem back_law (a b : Int) (dd : Bool) (w : World) (ha : i64ok a) (hb : i64ok b) (hg : Handle w) : Calls Tryd.prog 4 #[.int .i64 a, .int .i64 b, .bool dd] w (Ans (.bool true) w) := by
  have WH := Lib.hid whole_any
  have DC := Lib.hid dec_any
  have AL := Lib.hid aliveN_any
  have HG := Lib.hid hg
  have HA := Lib.hid ha
  have HBB := Lib.hid hb
  clear ha hb hg
  go_enter Tryd.func4, Tryd.ntmps4
  go_upto_if 26 with (first
    | (go_at_call 13; (with_reducible refine (WH.out a _).mono ?_); rintro e w1 ⟨rfl, hb1⟩
       have H1 := Lib.hid hb1
       clear hb1)
    | (go_at_call 13; (with_reducible refine (WH.out b _).mono ?_); rintro e w2 ⟨rfl, hb2⟩
       have HS := Lib.hid (BkS.start (k := 2) (j := 2) (a := a) (b := b) H1.out hb2)
       clear hb2))
  generalize w2.alloc (.cells #[.int .i64 2, .int .i64 b, .string ⟨#[]⟩] 25) = W0 at HS ⊢
  generalize w2.heap.size = bz at HS ⊢
  generalize w1.heap.size = bx at HS ⊢
  clear H1
  go_cut [] (fun wx => BkS w bx bz (kd dd) (kd dd) a b wx)
  case first =>
    cases dd with
    | false =>
      go_wp2_with fail
      go_meet
      exact HS.out
    | true =>
      go_wp2_with (first
        | (go_at_call 14; (with_reducible refine (DC.out a _).mono ?_); rintro e w3 ⟨rfl, hb3⟩
           have H3 := Lib.hid (HS.out.next hb3)
           obtain ⟨x0, x1, x2⟩ := box3 H3.out.x
           have z0 := frozen3 H3.out.x 0
           have z1 := frozen3 H3.out.x 1
           have z2 := frozen3 H3.out.x 2
           clear hb3)
        | (go_at_call 14; (with_reducible refine (DC.out b _).mono ?_); rintro e w4 ⟨rfl, hb4⟩
           have H4 := Lib.hid ((H3.out.setx 3 a).next hb4)
           obtain ⟨y0, y1, y2⟩ := box3 H4.out.y
           have z0 := frozen3 H4.out.y 0
           have z1 := frozen3 H4.out.y 1
           have z2 := frozen3 H4.out.y 2
           clear hb4))
      go_meet
      exact H4.out.sety 3 b
  case rest =>
    obtain ⟨W1, hW1, hs⟩ := BkS.world hcut
    subst hW1
    obtain ⟨k, hk⟩ : ∃ k, k = kd dd := ⟨_, rfl⟩
    rw [← hk] at hs
    have HK : Hid (k = 2 ∨ k = 3) := Lib.hid (by rw [hk]; exact kd_23 dd)
    have HS := Lib.hid hs
    have f1 := eqB_one k a
    clear hk hs hcut
    as_aux_lemma =>
      obtain ⟨x0, x1, x2⟩ := box3 HS.out.x
      obtain ⟨y0, y1, y2⟩ := box3 HS.out.y
      rcases back_add HK.out HA.out HBB.out with h | h
      · obtain ⟨h, hs⟩ := h
        obtain ⟨s, hse⟩ : ∃ s, s = a + b := ⟨_, rfl⟩
        rw [← hse] at h hs
        have R1 := Lib.hid (reckon_good2 h HK.out HK.out HA.out HBB.out)
        have R2 := Lib.hid (reckon_good2 (op := 4) (n := s) (by rw [hse]; exact sub_back HK.out HA.out HBB.out (by rw [← hse]; exact hs)) HK.out HK.out hs HBB.out)
        clear h hs hse
        go_upto_region 11 with (first
          | (go_at_call 15; (with_reducible refine (R1.out _).mono ?_); rintro e w5 ⟨rfl, hb5⟩
             clear x0 x1 x2 y0 y1 y2
             have H5 := Lib.hid ((HS.out.next hb5).next (alloc_below w5 (.cells #[.int .i64 k, .int .i64 s, .string ⟨#[]⟩] 25)))
             obtain ⟨x0, x1, x2⟩ := box3 H5.out.x
             obtain ⟨y0, y1, y2⟩ := box3 H5.out.y
             obtain ⟨s0, s1, s2⟩ := box3 (heap_alloc_new w5 (.cells #[.int .i64 k, .int .i64 s, .string ⟨#[]⟩] 25))
             clear hb5)
          | (go_at_call 15; (with_reducible refine (R2.out _).mono ?_); rintro e w6 ⟨rfl, hb6⟩
             clear x0 x1 x2 y0 y1 y2
             have H6 := Lib.hid ((H5.out.next hb6).next (alloc_below w6 (.cells #[.int .i64 k, .int .i64 a, .string ⟨#[]⟩] 25)))
             obtain ⟨x0, x1, x2⟩ := box3 H6.out.x
             obtain ⟨y0, y1, y2⟩ := box3 H6.out.y
             obtain ⟨t0, t1, t2⟩ := box3 (heap_alloc_new w6 (.cells #[.int .i64 k, .int .i64 a, .string ⟨#[]⟩] 25))
             clear hb6))
        clear R1 R2 s0 s1 s2 t0 t1 t2
        clear x0 x1 x2 y0 y1 y2
        have HS := Lib.hid H6.out
        generalize w6.alloc (.cells #[.int .i64 k, .int .i64 a, .string ⟨#[]⟩] 25) = W2 at HS ⊢
        as_aux_lemma =>
          obtain ⟨x0, x1, x2⟩ := box3 HS.out.x
          obtain ⟨y0, y1, y2⟩ := box3 HS.out.y
          rcases back_sub HK.out HA.out HBB.out with h | h
          · obtain ⟨h, hs⟩ := h
            obtain ⟨s, hse⟩ : ∃ s, s = a - b := ⟨_, rfl⟩
            rw [← hse] at h hs
            have R1 := Lib.hid (reckon_good2 h HK.out HK.out HA.out HBB.out)
            have R2 := Lib.hid (reckon_good2 (op := 3) (n := s) (by rw [hse]; exact add_back HK.out HA.out HBB.out (by rw [← hse]; exact hs)) HK.out HK.out hs HBB.out)
            clear h hs hse
            go_upto_region 16 with (first
              | (go_at_call 15; (with_reducible refine (R1.out _).mono ?_); rintro e w5 ⟨rfl, hb5⟩
                 clear x0 x1 x2 y0 y1 y2
                 have H5 := Lib.hid ((HS.out.next hb5).next (alloc_below w5 (.cells #[.int .i64 k, .int .i64 s, .string ⟨#[]⟩] 25)))
                 obtain ⟨x0, x1, x2⟩ := box3 H5.out.x
                 obtain ⟨y0, y1, y2⟩ := box3 H5.out.y
                 obtain ⟨s0, s1, s2⟩ := box3 (heap_alloc_new w5 (.cells #[.int .i64 k, .int .i64 s, .string ⟨#[]⟩] 25))
                 clear hb5)
              | (go_at_call 15; (with_reducible refine (R2.out _).mono ?_); rintro e w6 ⟨rfl, hb6⟩
                 clear x0 x1 x2 y0 y1 y2
                 have H6 := Lib.hid ((H5.out.next hb6).next (alloc_below w6 (.cells #[.int .i64 k, .int .i64 a, .string ⟨#[]⟩] 25)))
                 obtain ⟨x0, x1, x2⟩ := box3 H6.out.x
                 obtain ⟨y0, y1, y2⟩ := box3 H6.out.y
                 obtain ⟨t0, t1, t2⟩ := box3 (heap_alloc_new w6 (.cells #[.int .i64 k, .int .i64 a, .string ⟨#[]⟩] 25))
                 clear hb6))
            clear R1 R2 s0 s1 s2 t0 t1 t2
            clear x0 x1 x2 y0 y1 y2
            have HS := Lib.hid H6.out
            generalize w6.alloc (.cells #[.int .i64 k, .int .i64 a, .string ⟨#[]⟩] 25) = W3 at HS ⊢
            as_aux_lemma =>
              obtain ⟨x0, x1, x2⟩ := box3 HS.out.x
              obtain ⟨y0, y1, y2⟩ := box3 HS.out.y
              rcases back_mul HA.out HBB.out with h | h
              · obtain ⟨h, hs⟩ := h
                obtain ⟨p, hpe⟩ : ∃ p, p = a * b := ⟨_, rfl⟩
                rw [← hpe] at h hs
                have R1 := Lib.hid (reckon_good2 h (.inl rfl) (.inl rfl) HA.out HBB.out)
                clear h
                by_cases hb0 : b = 0
                · clear hs hpe
                  subst hb0
                  go_upto_region 21 with (first
                    | (go_at_call 13; (with_reducible refine (WH.out a _).mono ?_); rintro e w11 ⟨rfl, hb11⟩
                       clear x0 x1 x2 y0 y1 y2
                       have H1 := Lib.hid (HS.out.next hb11)
                       obtain ⟨x0, x1, x2⟩ := box3 H1.out.x
                       obtain ⟨y0, y1, y2⟩ := box3 H1.out.y
                       clear hb11)
                    | (go_at_call 13; (with_reducible refine (WH.out 0 _).mono ?_); rintro e w12 ⟨rfl, hb12⟩
                       clear x0 x1 x2 y0 y1 y2
                       have H2 := Lib.hid (H1.out.next hb12)
                       obtain ⟨x0, x1, x2⟩ := box3 H2.out.x
                       obtain ⟨y0, y1, y2⟩ := box3 H2.out.y
                       clear hb12)
                    | (go_at_call 15; (with_reducible refine (R1.out _).mono ?_); rintro e w13 ⟨rfl, hb13⟩
                       clear x0 x1 x2 y0 y1 y2
                       have H3 := Lib.hid ((H2.out.next hb13).next (alloc_below w13 (.cells #[.int .i64 2, .int .i64 p, .string ⟨#[]⟩] 25)))
                       obtain ⟨x0, x1, x2⟩ := box3 H3.out.x
                       obtain ⟨y0, y1, y2⟩ := box3 H3.out.y
                       obtain ⟨s0, s1, s2⟩ := box3 (heap_alloc_new w13 (.cells #[.int .i64 2, .int .i64 p, .string ⟨#[]⟩] 25))
                       clear hb13))
                  clear R1 s0 s1 s2
                  clear x0 x1 x2 y0 y1 y2
                  have HS := Lib.hid H3.out
                  generalize w13.alloc (.cells #[.int .i64 2, .int .i64 p, .string ⟨#[]⟩] 25) = W4 at HS ⊢
                  as_aux_lemma =>
                    obtain ⟨x0, x1, x2⟩ := box3 HS.out.x
                    obtain ⟨y0, y1, y2⟩ := box3 HS.out.y
                    by_cases hmin : a = -9223372036854775808
                    · subst hmin
                      have R1 := Lib.hid (neg_bad2 k _ _ _ (neg_bad HK.out) HK.out HA.out)
                      go_upto_region 26 with (first
                        | (go_at_call 16; (with_reducible refine (R1.out _).mono ?_); rintro e w7 ⟨N7, rfl, hb7⟩
                           clear x0 x1 x2 y0 y1 y2
                           have H5 := Lib.hid ((HS.out.next hb7).next (alloc_below w7 (.cells #[.int .i64 0, .int .i64 0, .string ⟨#[]⟩] 25)))
                           obtain ⟨x0, x1, x2⟩ := box3 H5.out.x
                           obtain ⟨y0, y1, y2⟩ := box3 H5.out.y
                           clear hb7))
                      clear R1
                      clear x0 x1 x2 y0 y1 y2
                      have HS := Lib.hid H5.out
                      generalize w7.alloc (.cells #[.int .i64 0, .int .i64 0, .string ⟨#[]⟩] 25) = W5 at HS ⊢
                      as_aux_lemma =>
                        obtain ⟨x0, x1, x2⟩ := box3 HS.out.x
                        obtain ⟨y0, y1, y2⟩ := box3 HS.out.y
                        go_wp2_with (go_at_call 7; refine (AL.out _ (HG.out.below HS.out.bel)).mono ?_; rintro e w9 ⟨rfl, hb⟩
                                     have HE := Lib.hid (HS.out.next hb)
                                     clear hb)
                        go_ret
                        exact ⟨rfl, HE.out.bel⟩
                    · have hok : i64ok (-a) := by have := HA.out; unfold i64ok at this ⊢; omega
                      have hn2 : -a ≠ -9223372036854775808 := by have := HA.out; unfold i64ok at this; omega
                      have R1 := Lib.hid (neg_good k a (-a) (neg_ok HK.out HA.out hmin) HK.out HA.out)
                      have R2 := Lib.hid (neg_good k (-a) a (by rw [neg_ok HK.out hok hn2, Int.neg_neg]) HK.out hok)
                      have m1 : (a == -9223372036854775808) = false := by simpa using hmin
                      have m2 : (a != -9223372036854775808) = true := by simpa using hmin
                      obtain ⟨na, hna⟩ : ∃ na, na = -a := ⟨_, rfl⟩
                      rw [← hna] at R1 R2
                      clear hok hn2 hmin hna
                      have M1 := Lib.hid m1
                      have M2 := Lib.hid m2
                      clear m1 m2
                      go_upto_region 26 with (first
                        | (go_at_call 16; (with_reducible refine (R1.out _).mono ?_); rintro e w7 ⟨rfl, hb7⟩
                           clear x0 x1 x2 y0 y1 y2
                           have H5 := Lib.hid ((HS.out.next hb7).next (alloc_below w7 (.cells #[.int .i64 k, .int .i64 na, .string ⟨#[]⟩] 25)))
                           obtain ⟨x0, x1, x2⟩ := box3 H5.out.x
                           obtain ⟨y0, y1, y2⟩ := box3 H5.out.y
                           obtain ⟨s0, s1, s2⟩ := box3 (heap_alloc_new w7 (.cells #[.int .i64 k, .int .i64 na, .string ⟨#[]⟩] 25))
                           clear hb7)
                        | (go_at_call 16; (with_reducible refine (R2.out _).mono ?_); rintro e w8 ⟨rfl, hb8⟩
                           clear x0 x1 x2 y0 y1 y2
                           have H6 := Lib.hid ((H5.out.next hb8).next (alloc_below w8 (.cells #[.int .i64 k, .int .i64 a, .string ⟨#[]⟩] 25)))
                           obtain ⟨x0, x1, x2⟩ := box3 H6.out.x
                           obtain ⟨y0, y1, y2⟩ := box3 H6.out.y
                           obtain ⟨t0, t1, t2⟩ := box3 (heap_alloc_new w8 (.cells #[.int .i64 k, .int .i64 a, .string ⟨#[]⟩] 25))
                           clear hb8))
                      clear R1 R2 s0 s1 s2 t0 t1 t2
                      clear x0 x1 x2 y0 y1 y2
                      have HS := Lib.hid H6.out
                      generalize w8.alloc (.cells #[.int .i64 k, .int .i64 a, .string ⟨#[]⟩] 25) = W5 at HS ⊢
                      as_aux_lemma =>
                        obtain ⟨x0, x1, x2⟩ := box3 HS.out.x
                        obtain ⟨y0, y1, y2⟩ := box3 HS.out.y
                        have m1 := M1.out
                        have m2 := M2.out
                        go_wp2_with (go_at_call 7; refine (AL.out _ (HG.out.below HS.out.bel)).mono ?_; rintro e w9 ⟨rfl, hb⟩
                                     have HE := Lib.hid (HS.out.next hb)
                                     clear hb)
                        go_ret
                        exact ⟨rfl, HE.out.bel⟩
                · have R2 := Lib.hid (reckon_good2 (op := 6) (n := p) (by rw [hpe]; exact div_back HA.out HBB.out (by rw [← hpe]; exact hs) hb0) (.inl rfl) (.inl rfl) hs HBB.out)
                  have nb1 : (b == 0) = false := by simpa using hb0
                  have nb2 : (b != 0) = true := by simpa using hb0
                  have f1 := eqB_one 2 a
                  clear hb0 hs hpe
                  go_upto_region 18 with (first
                    | (go_at_call 13; (with_reducible refine (WH.out a _).mono ?_); rintro e w11 ⟨rfl, hb11⟩
                       clear x0 x1 x2 y0 y1 y2
                       have H1 := Lib.hid (HS.out.next hb11)
                       obtain ⟨x0, x1, x2⟩ := box3 H1.out.x
                       obtain ⟨y0, y1, y2⟩ := box3 H1.out.y
                       clear hb11)
                    | (go_at_call 13; (with_reducible refine (WH.out b _).mono ?_); rintro e w12 ⟨rfl, hb12⟩
                       clear x0 x1 x2 y0 y1 y2
                       have H2 := Lib.hid (H1.out.next hb12)
                       obtain ⟨x0, x1, x2⟩ := box3 H2.out.x
                       obtain ⟨y0, y1, y2⟩ := box3 H2.out.y
                       clear hb12)
                    | (go_at_call 15; (with_reducible refine (R1.out _).mono ?_); rintro e w13 ⟨rfl, hb13⟩
                       clear x0 x1 x2 y0 y1 y2
                       have H3 := Lib.hid ((H2.out.next hb13).next (alloc_below w13 (.cells #[.int .i64 2, .int .i64 p, .string ⟨#[]⟩] 25)))
                       obtain ⟨x0, x1, x2⟩ := box3 H3.out.x
                       obtain ⟨y0, y1, y2⟩ := box3 H3.out.y
                       obtain ⟨s0, s1, s2⟩ := box3 (heap_alloc_new w13 (.cells #[.int .i64 2, .int .i64 p, .string ⟨#[]⟩] 25))
                       clear hb13))
                  obtain ⟨W6, hW6⟩ : ∃ W6, W6 = w13.alloc (.cells #[.int .i64 2, .int .i64 p, .string ⟨#[]⟩] 25) := ⟨_, rfl⟩
                  obtain ⟨g6, hg6⟩ : ∃ g6, g6 = w13.heap.size := ⟨_, rfl⟩
                  have HP6 : Hid (W6.heap[g6]? = some (.cells #[.int .i64 2, .int .i64 p, .string ⟨#[]⟩] 25 (0, 0))) := Lib.hid (by rw [hW6, hg6]; exact heap_alloc_new w13 _)
                  rw [← hW6] at H3 ⊢
                  rw [← hg6]
                  clear hW6 hg6 s0 s1 s2 x0 x1 x2 y0 y1 y2 R1
                  have HQ6 : Hid (∀ W, Below W6.heap.size W6 W → (W.cell? ⟨g6, 0, none⟩ = some (.int .i64 2) ∧ W.cell? ⟨g6, 1, none⟩ = some (.int .i64 p) ∧ W.cell? ⟨g6, 2, none⟩ = some (.string ⟨#[]⟩))) := Lib.hid fun W h => box3 ((h.block g6 (Array.getElem?_eq_some_iff.1 HP6.out).1).trans HP6.out)
                  go_cut [17, 18] (fun v17 v18 wx => BkD W6 a v17 v18 wx)
                  case first =>
                    go_region_held3 (fun W => (W.cell? ⟨g6, 0, none⟩ = some (.int .i64 2) ∧ W.cell? ⟨g6, 1, none⟩ = some (.int .i64 p) ∧ W.cell? ⟨g6, 2, none⟩ = some (.string ⟨#[]⟩)))
                      (first
                        | exact HQ6.out _ HC15.out
                        | exact HQ6.out _ (HC15.out.trans ((alloc_below _ _).mono HC15.out.size))
                        | exact HQ6.out _ (set3_below0 HC15.out (by first | exact HC1.out.size | exact Nat.le_refl _) _ _ _)
                        | exact HQ6.out _ HC1.out
                        | exact HQ6.out _ (HC1.out.trans ((alloc_below _ _).mono HC1.out.size))
                        | exact HQ6.out _ (drew_below _)
                        | exact HQ6.out _ ((drew_below _).trans ((alloc_below _ _).mono (Nat.le_refl _))))
                      (first
                      | (go_at_call 13; refine (WH.out b _).mono ?_; rintro e w14 ⟨rfl, hb14⟩
                         have HC1 : Hid (Below W6.heap.size W6 w14) := Lib.hid (by first | exact (drew_below W6).trans hb14 | exact ((drew_below W6).trans ((alloc_below _ _).mono (Nat.le_refl _))).trans (hb14.mono (by simp)))
                         (first
                           | (have hx := (hb14.block W6.heap.size (by simp)).trans (heap_alloc_new W6.drew (.cells #[.int .i64 0, .int .i64 0, .string ⟨#[]⟩] 25))
                              have HZ := Lib.hid hx
                              clear hx)
                           | skip)
                         clear hb14)
                      | (go_at_call 15; refine (R2.out _).mono ?_; rintro e w15 ⟨rfl, hb15⟩
                         have HC15 : Hid (Below W6.heap.size W6 w15) := Lib.hid (by first | exact HC1.out.trans (hb15.mono HC1.out.size) | exact (HC1.out.trans ((alloc_below w14 _).mono HC1.out.size)).trans (hb15.mono (by have := HC1.out.size; simp; omega)))
                         (first
                           | (have hx := (hb15.block w14.heap.size (by simp)).trans (heap_alloc_new w14 (.cells #[.int .i64 0, .int .i64 0, .string ⟨#[]⟩] 25))
                              have HZ := Lib.hid hx
                              obtain ⟨r0, r1, r2⟩ := box3 hx
                              have z0 := frozen3 hx 0
                              have z1 := frozen3 hx 1
                              have z2 := frozen3 hx 2
                              clear hx)
                           | (have hx := (hb15.block W6.heap.size (by have := HC1.out.size; have := (Array.getElem?_eq_some_iff.1 HZ.out).1; omega)).trans HZ.out
                              have HZ := Lib.hid hx
                              obtain ⟨r0, r1, r2⟩ := box3 hx
                              have z0 := frozen3 hx 0
                              have z1 := frozen3 hx 1
                              have z2 := frozen3 hx 2
                              clear hx)
                           | skip)
                         clear hb15)
                      | fail)
                    all_goals
                      go_wp2_with fail
                      go_meet
                      first
                        | exact ⟨_, rfl, rfl, heap_alloc_new w15 _, HC15.out.trans ((alloc_below w15 _).mono HC15.out.size)⟩
                        | exact ⟨_, rfl, rfl, heap_set3 HZ.out, set3_below0 HC15.out HC1.out.size _ _ _⟩
                        | exact ⟨_, rfl, rfl, heap_set3 HZ.out, set3_below0 HC15.out (Nat.le_refl _) _ _ _⟩
                  case rest =>
                    obtain ⟨W7, hW7, hcut7⟩ := BkD.world hcut
                    subst hW7
                    obtain ⟨g7, rfl, rfl, hp7, hb7⟩ := hcut7
                    have HS7 := Lib.hid (H3.out.next hb7)
                    have HP7 := Lib.hid hp7
                    clear hp7 hb7 hcut HQ6 H3 HP6 R2
                    have HQ7 : Hid (∀ W, Below W7.heap.size W7 W → (W.cell? ⟨g7, 0, none⟩ = some (.int .i64 2) ∧ W.cell? ⟨g7, 1, none⟩ = some (.int .i64 a) ∧ W.cell? ⟨g7, 2, none⟩ = some (.string ⟨#[]⟩))) := Lib.hid fun W h => box3 ((h.block g7 (Array.getElem?_eq_some_iff.1 HP7.out).1).trans HP7.out)
                    go_upto_region 19 with fail
                    go_region_held3 (fun W => (W.cell? ⟨g7, 0, none⟩ = some (.int .i64 2) ∧ W.cell? ⟨g7, 1, none⟩ = some (.int .i64 a) ∧ W.cell? ⟨g7, 2, none⟩ = some (.string ⟨#[]⟩)))
                      (first
                        | exact HQ7.out _ HC8.out
                        | exact HQ7.out _ (drew_below _))
                      (first
                      | (go_at_call 13; refine (WH.out a _).mono ?_; rintro e w16 ⟨rfl, hb16⟩
                         have HC8 := Lib.hid ((drew_below W7).trans hb16)
                         clear hb16)
                      | fail)
                    have HS := Lib.hid (HS7.out.next HC8.out)
                    clear HS7 HC8 HQ7 HP7 nb1 nb2
                    go_upto_region 21 with fail
                    as_aux_lemma =>
                      obtain ⟨x0, x1, x2⟩ := box3 HS.out.x
                      obtain ⟨y0, y1, y2⟩ := box3 HS.out.y
                      by_cases hmin : a = -9223372036854775808
                      · subst hmin
                        have R1 := Lib.hid (neg_bad2 k _ _ _ (neg_bad HK.out) HK.out HA.out)
                        go_upto_region 26 with (first
                          | (go_at_call 16; (with_reducible refine (R1.out _).mono ?_); rintro e w7 ⟨N7, rfl, hb7⟩
                             clear x0 x1 x2 y0 y1 y2
                             have H5 := Lib.hid ((HS.out.next hb7).next (alloc_below w7 (.cells #[.int .i64 0, .int .i64 0, .string ⟨#[]⟩] 25)))
                             obtain ⟨x0, x1, x2⟩ := box3 H5.out.x
                             obtain ⟨y0, y1, y2⟩ := box3 H5.out.y
                             clear hb7))
                        clear R1
                        clear x0 x1 x2 y0 y1 y2
                        have HS := Lib.hid H5.out
                        generalize w7.alloc (.cells #[.int .i64 0, .int .i64 0, .string ⟨#[]⟩] 25) = W5 at HS ⊢
                        as_aux_lemma =>
                          obtain ⟨x0, x1, x2⟩ := box3 HS.out.x
                          obtain ⟨y0, y1, y2⟩ := box3 HS.out.y
                          go_wp2_with (go_at_call 7; refine (AL.out _ (HG.out.below HS.out.bel)).mono ?_; rintro e w9 ⟨rfl, hb⟩
                                       have HE := Lib.hid (HS.out.next hb)
                                       clear hb)
                          go_ret
                          exact ⟨rfl, HE.out.bel⟩
                      · have hok : i64ok (-a) := by have := HA.out; unfold i64ok at this ⊢; omega
                        have hn2 : -a ≠ -9223372036854775808 := by have := HA.out; unfold i64ok at this; omega
                        have R1 := Lib.hid (neg_good k a (-a) (neg_ok HK.out HA.out hmin) HK.out HA.out)
                        have R2 := Lib.hid (neg_good k (-a) a (by rw [neg_ok HK.out hok hn2, Int.neg_neg]) HK.out hok)
                        have m1 : (a == -9223372036854775808) = false := by simpa using hmin
                        have m2 : (a != -9223372036854775808) = true := by simpa using hmin
                        obtain ⟨na, hna⟩ : ∃ na, na = -a := ⟨_, rfl⟩
                        rw [← hna] at R1 R2
                        clear hok hn2 hmin hna
                        have M1 := Lib.hid m1
                        have M2 := Lib.hid m2
                        clear m1 m2
                        go_upto_region 26 with (first
                          | (go_at_call 16; (with_reducible refine (R1.out _).mono ?_); rintro e w7 ⟨rfl, hb7⟩
                             clear x0 x1 x2 y0 y1 y2
                             have H5 := Lib.hid ((HS.out.next hb7).next (alloc_below w7 (.cells #[.int .i64 k, .int .i64 na, .string ⟨#[]⟩] 25)))
                             obtain ⟨x0, x1, x2⟩ := box3 H5.out.x
                             obtain ⟨y0, y1, y2⟩ := box3 H5.out.y
                             obtain ⟨s0, s1, s2⟩ := box3 (heap_alloc_new w7 (.cells #[.int .i64 k, .int .i64 na, .string ⟨#[]⟩] 25))
                             clear hb7)
                          | (go_at_call 16; (with_reducible refine (R2.out _).mono ?_); rintro e w8 ⟨rfl, hb8⟩
                             clear x0 x1 x2 y0 y1 y2
                             have H6 := Lib.hid ((H5.out.next hb8).next (alloc_below w8 (.cells #[.int .i64 k, .int .i64 a, .string ⟨#[]⟩] 25)))
                             obtain ⟨x0, x1, x2⟩ := box3 H6.out.x
                             obtain ⟨y0, y1, y2⟩ := box3 H6.out.y
                             obtain ⟨t0, t1, t2⟩ := box3 (heap_alloc_new w8 (.cells #[.int .i64 k, .int .i64 a, .string ⟨#[]⟩] 25))
                             clear hb8))
                        clear R1 R2 s0 s1 s2 t0 t1 t2
                        clear x0 x1 x2 y0 y1 y2
                        have HS := Lib.hid H6.out
                        generalize w8.alloc (.cells #[.int .i64 k, .int .i64 a, .string ⟨#[]⟩] 25) = W5 at HS ⊢
                        as_aux_lemma =>
                          obtain ⟨x0, x1, x2⟩ := box3 HS.out.x
                          obtain ⟨y0, y1, y2⟩ := box3 HS.out.y
                          have m1 := M1.out
                          have m2 := M2.out
                          go_wp2_with (go_at_call 7; refine (AL.out _ (HG.out.below HS.out.bel)).mono ?_; rintro e w9 ⟨rfl, hb⟩
                                       have HE := Lib.hid (HS.out.next hb)
                                       clear hb)
                          go_ret
                          exact ⟨rfl, HE.out.bel⟩
              · have R1 := Lib.hid (reckon_bad2 h (.inl rfl) (.inl rfl) HA.out HBB.out)
                clear h
                go_upto_region 21 with (first
                  | (go_at_call 13; (with_reducible refine (WH.out a _).mono ?_); rintro e w11 ⟨rfl, hb11⟩
                     clear x0 x1 x2 y0 y1 y2
                     have H1 := Lib.hid (HS.out.next hb11)
                     obtain ⟨x0, x1, x2⟩ := box3 H1.out.x
                     obtain ⟨y0, y1, y2⟩ := box3 H1.out.y
                     clear hb11)
                  | (go_at_call 13; (with_reducible refine (WH.out b _).mono ?_); rintro e w12 ⟨rfl, hb12⟩
                     clear x0 x1 x2 y0 y1 y2
                     have H2 := Lib.hid (H1.out.next hb12)
                     obtain ⟨x0, x1, x2⟩ := box3 H2.out.x
                     obtain ⟨y0, y1, y2⟩ := box3 H2.out.y
                     clear hb12)
                  | (go_at_call 15; (with_reducible refine (R1.out _).mono ?_); rintro e w13 ⟨N13, rfl, hb13⟩
                     clear x0 x1 x2 y0 y1 y2
                     have H3 := Lib.hid ((H2.out.next hb13).next (alloc_below w13 (.cells #[.int .i64 0, .int .i64 0, .string ⟨#[]⟩] 25)))
                     obtain ⟨x0, x1, x2⟩ := box3 H3.out.x
                     obtain ⟨y0, y1, y2⟩ := box3 H3.out.y
                     clear hb13))
                clear R1
                clear x0 x1 x2 y0 y1 y2
                have HS := Lib.hid H3.out
                generalize w13.alloc (.cells #[.int .i64 0, .int .i64 0, .string ⟨#[]⟩] 25) = W4 at HS ⊢
                as_aux_lemma =>
                  obtain ⟨x0, x1, x2⟩ := box3 HS.out.x
                  obtain ⟨y0, y1, y2⟩ := box3 HS.out.y
                  by_cases hmin : a = -9223372036854775808
                  · subst hmin
                    have R1 := Lib.hid (neg_bad2 k _ _ _ (neg_bad HK.out) HK.out HA.out)
                    go_upto_region 26 with (first
                      | (go_at_call 16; (with_reducible refine (R1.out _).mono ?_); rintro e w7 ⟨N7, rfl, hb7⟩
                         clear x0 x1 x2 y0 y1 y2
                         have H5 := Lib.hid ((HS.out.next hb7).next (alloc_below w7 (.cells #[.int .i64 0, .int .i64 0, .string ⟨#[]⟩] 25)))
                         obtain ⟨x0, x1, x2⟩ := box3 H5.out.x
                         obtain ⟨y0, y1, y2⟩ := box3 H5.out.y
                         clear hb7))
                    clear R1
                    clear x0 x1 x2 y0 y1 y2
                    have HS := Lib.hid H5.out
                    generalize w7.alloc (.cells #[.int .i64 0, .int .i64 0, .string ⟨#[]⟩] 25) = W5 at HS ⊢
                    as_aux_lemma =>
                      obtain ⟨x0, x1, x2⟩ := box3 HS.out.x
                      obtain ⟨y0, y1, y2⟩ := box3 HS.out.y
                      go_wp2_with (go_at_call 7; refine (AL.out _ (HG.out.below HS.out.bel)).mono ?_; rintro e w9 ⟨rfl, hb⟩
                                   have HE := Lib.hid (HS.out.next hb)
                                   clear hb)
                      go_ret
                      exact ⟨rfl, HE.out.bel⟩
                  · have hok : i64ok (-a) := by have := HA.out; unfold i64ok at this ⊢; omega
                    have hn2 : -a ≠ -9223372036854775808 := by have := HA.out; unfold i64ok at this; omega
                    have R1 := Lib.hid (neg_good k a (-a) (neg_ok HK.out HA.out hmin) HK.out HA.out)
                    have R2 := Lib.hid (neg_good k (-a) a (by rw [neg_ok HK.out hok hn2, Int.neg_neg]) HK.out hok)
                    have m1 : (a == -9223372036854775808) = false := by simpa using hmin
                    have m2 : (a != -9223372036854775808) = true := by simpa using hmin
                    obtain ⟨na, hna⟩ : ∃ na, na = -a := ⟨_, rfl⟩
                    rw [← hna] at R1 R2
                    clear hok hn2 hmin hna
                    have M1 := Lib.hid m1
                    have M2 := Lib.hid m2
                    clear m1 m2
                    go_upto_region 26 with (first
                      | (go_at_call 16; (with_reducible refine (R1.out _).mono ?_); rintro e w7 ⟨rfl, hb7⟩
                         clear x0 x1 x2 y0 y1 y2
                         have H5 := Lib.hid ((HS.out.next hb7).next (alloc_below w7 (.cells #[.int .i64 k, .int .i64 na, .string ⟨#[]⟩] 25)))
                         obtain ⟨x0, x1, x2⟩ := box3 H5.out.x
                         obtain ⟨y0, y1, y2⟩ := box3 H5.out.y
                         obtain ⟨s0, s1, s2⟩ := box3 (heap_alloc_new w7 (.cells #[.int .i64 k, .int .i64 na, .string ⟨#[]⟩] 25))
                         clear hb7)
                      | (go_at_call 16; (with_reducible refine (R2.out _).mono ?_); rintro e w8 ⟨rfl, hb8⟩
                         clear x0 x1 x2 y0 y1 y2
                         have H6 := Lib.hid ((H5.out.next hb8).next (alloc_below w8 (.cells #[.int .i64 k, .int .i64 a, .string ⟨#[]⟩] 25)))
                         obtain ⟨x0, x1, x2⟩ := box3 H6.out.x
                         obtain ⟨y0, y1, y2⟩ := box3 H6.out.y
                         obtain ⟨t0, t1, t2⟩ := box3 (heap_alloc_new w8 (.cells #[.int .i64 k, .int .i64 a, .string ⟨#[]⟩] 25))
                         clear hb8))
                    clear R1 R2 s0 s1 s2 t0 t1 t2
                    clear x0 x1 x2 y0 y1 y2
                    have HS := Lib.hid H6.out
                    generalize w8.alloc (.cells #[.int .i64 k, .int .i64 a, .string ⟨#[]⟩] 25) = W5 at HS ⊢
                    as_aux_lemma =>
                      obtain ⟨x0, x1, x2⟩ := box3 HS.out.x
                      obtain ⟨y0, y1, y2⟩ := box3 HS.out.y
                      have m1 := M1.out
                      have m2 := M2.out
                      go_wp2_with (go_at_call 7; refine (AL.out _ (HG.out.below HS.out.bel)).mono ?_; rintro e w9 ⟨rfl, hb⟩
                                   have HE := Lib.hid (HS.out.next hb)
                                   clear hb)
                      go_ret
                      exact ⟨rfl, HE.out.bel⟩
          · have R1 := Lib.hid (reckon_bad2 h HK.out HK.out HA.out HBB.out)
            clear h
            go_upto_region 16 with (first
              | (go_at_call 15; (with_reducible refine (R1.out _).mono ?_); rintro e w5 ⟨N5, rfl, hb5⟩
                 clear x0 x1 x2 y0 y1 y2
                 have H5 := Lib.hid ((HS.out.next hb5).next (alloc_below w5 (.cells #[.int .i64 0, .int .i64 0, .string ⟨#[]⟩] 25)))
                 obtain ⟨x0, x1, x2⟩ := box3 H5.out.x
                 obtain ⟨y0, y1, y2⟩ := box3 H5.out.y
                 clear hb5))
            clear R1
            clear x0 x1 x2 y0 y1 y2
            have HS := Lib.hid H5.out
            generalize w5.alloc (.cells #[.int .i64 0, .int .i64 0, .string ⟨#[]⟩] 25) = W3 at HS ⊢
            as_aux_lemma =>
              obtain ⟨x0, x1, x2⟩ := box3 HS.out.x
              obtain ⟨y0, y1, y2⟩ := box3 HS.out.y
              rcases back_mul HA.out HBB.out with h | h
              · obtain ⟨h, hs⟩ := h
                obtain ⟨p, hpe⟩ : ∃ p, p = a * b := ⟨_, rfl⟩
                rw [← hpe] at h hs
                have R1 := Lib.hid (reckon_good2 h (.inl rfl) (.inl rfl) HA.out HBB.out)
                clear h
                by_cases hb0 : b = 0
                · clear hs hpe
                  subst hb0
                  go_upto_region 21 with (first
                    | (go_at_call 13; (with_reducible refine (WH.out a _).mono ?_); rintro e w11 ⟨rfl, hb11⟩
                       clear x0 x1 x2 y0 y1 y2
                       have H1 := Lib.hid (HS.out.next hb11)
                       obtain ⟨x0, x1, x2⟩ := box3 H1.out.x
                       obtain ⟨y0, y1, y2⟩ := box3 H1.out.y
                       clear hb11)
                    | (go_at_call 13; (with_reducible refine (WH.out 0 _).mono ?_); rintro e w12 ⟨rfl, hb12⟩
                       clear x0 x1 x2 y0 y1 y2
                       have H2 := Lib.hid (H1.out.next hb12)
                       obtain ⟨x0, x1, x2⟩ := box3 H2.out.x
                       obtain ⟨y0, y1, y2⟩ := box3 H2.out.y
                       clear hb12)
                    | (go_at_call 15; (with_reducible refine (R1.out _).mono ?_); rintro e w13 ⟨rfl, hb13⟩
                       clear x0 x1 x2 y0 y1 y2
                       have H3 := Lib.hid ((H2.out.next hb13).next (alloc_below w13 (.cells #[.int .i64 2, .int .i64 p, .string ⟨#[]⟩] 25)))
                       obtain ⟨x0, x1, x2⟩ := box3 H3.out.x
                       obtain ⟨y0, y1, y2⟩ := box3 H3.out.y
                       obtain ⟨s0, s1, s2⟩ := box3 (heap_alloc_new w13 (.cells #[.int .i64 2, .int .i64 p, .string ⟨#[]⟩] 25))
                       clear hb13))
                  clear R1 s0 s1 s2
                  clear x0 x1 x2 y0 y1 y2
                  have HS := Lib.hid H3.out
                  generalize w13.alloc (.cells #[.int .i64 2, .int .i64 p, .string ⟨#[]⟩] 25) = W4 at HS ⊢
                  as_aux_lemma =>
                    obtain ⟨x0, x1, x2⟩ := box3 HS.out.x
                    obtain ⟨y0, y1, y2⟩ := box3 HS.out.y
                    by_cases hmin : a = -9223372036854775808
                    · subst hmin
                      have R1 := Lib.hid (neg_bad2 k _ _ _ (neg_bad HK.out) HK.out HA.out)
                      go_upto_region 26 with (first
                        | (go_at_call 16; (with_reducible refine (R1.out _).mono ?_); rintro e w7 ⟨N7, rfl, hb7⟩
                           clear x0 x1 x2 y0 y1 y2
                           have H5 := Lib.hid ((HS.out.next hb7).next (alloc_below w7 (.cells #[.int .i64 0, .int .i64 0, .string ⟨#[]⟩] 25)))
                           obtain ⟨x0, x1, x2⟩ := box3 H5.out.x
                           obtain ⟨y0, y1, y2⟩ := box3 H5.out.y
                           clear hb7))
                      clear R1
                      clear x0 x1 x2 y0 y1 y2
                      have HS := Lib.hid H5.out
                      generalize w7.alloc (.cells #[.int .i64 0, .int .i64 0, .string ⟨#[]⟩] 25) = W5 at HS ⊢
                      as_aux_lemma =>
                        obtain ⟨x0, x1, x2⟩ := box3 HS.out.x
                        obtain ⟨y0, y1, y2⟩ := box3 HS.out.y
                        go_wp2_with (go_at_call 7; refine (AL.out _ (HG.out.below HS.out.bel)).mono ?_; rintro e w9 ⟨rfl, hb⟩
                                     have HE := Lib.hid (HS.out.next hb)
                                     clear hb)
                        go_ret
                        exact ⟨rfl, HE.out.bel⟩
                    · have hok : i64ok (-a) := by have := HA.out; unfold i64ok at this ⊢; omega
                      have hn2 : -a ≠ -9223372036854775808 := by have := HA.out; unfold i64ok at this; omega
                      have R1 := Lib.hid (neg_good k a (-a) (neg_ok HK.out HA.out hmin) HK.out HA.out)
                      have R2 := Lib.hid (neg_good k (-a) a (by rw [neg_ok HK.out hok hn2, Int.neg_neg]) HK.out hok)
                      have m1 : (a == -9223372036854775808) = false := by simpa using hmin
                      have m2 : (a != -9223372036854775808) = true := by simpa using hmin
                      obtain ⟨na, hna⟩ : ∃ na, na = -a := ⟨_, rfl⟩
                      rw [← hna] at R1 R2
                      clear hok hn2 hmin hna
                      have M1 := Lib.hid m1
                      have M2 := Lib.hid m2
                      clear m1 m2
                      go_upto_region 26 with (first
                        | (go_at_call 16; (with_reducible refine (R1.out _).mono ?_); rintro e w7 ⟨rfl, hb7⟩
                           clear x0 x1 x2 y0 y1 y2
                           have H5 := Lib.hid ((HS.out.next hb7).next (alloc_below w7 (.cells #[.int .i64 k, .int .i64 na, .string ⟨#[]⟩] 25)))
                           obtain ⟨x0, x1, x2⟩ := box3 H5.out.x
                           obtain ⟨y0, y1, y2⟩ := box3 H5.out.y
                           obtain ⟨s0, s1, s2⟩ := box3 (heap_alloc_new w7 (.cells #[.int .i64 k, .int .i64 na, .string ⟨#[]⟩] 25))
                           clear hb7)
                        | (go_at_call 16; (with_reducible refine (R2.out _).mono ?_); rintro e w8 ⟨rfl, hb8⟩
                           clear x0 x1 x2 y0 y1 y2
                           have H6 := Lib.hid ((H5.out.next hb8).next (alloc_below w8 (.cells #[.int .i64 k, .int .i64 a, .string ⟨#[]⟩] 25)))
                           obtain ⟨x0, x1, x2⟩ := box3 H6.out.x
                           obtain ⟨y0, y1, y2⟩ := box3 H6.out.y
                           obtain ⟨t0, t1, t2⟩ := box3 (heap_alloc_new w8 (.cells #[.int .i64 k, .int .i64 a, .string ⟨#[]⟩] 25))
                           clear hb8))
                      clear R1 R2 s0 s1 s2 t0 t1 t2
                      clear x0 x1 x2 y0 y1 y2
                      have HS := Lib.hid H6.out
                      generalize w8.alloc (.cells #[.int .i64 k, .int .i64 a, .string ⟨#[]⟩] 25) = W5 at HS ⊢
                      as_aux_lemma =>
                        obtain ⟨x0, x1, x2⟩ := box3 HS.out.x
                        obtain ⟨y0, y1, y2⟩ := box3 HS.out.y
                        have m1 := M1.out
                        have m2 := M2.out
                        go_wp2_with (go_at_call 7; refine (AL.out _ (HG.out.below HS.out.bel)).mono ?_; rintro e w9 ⟨rfl, hb⟩
                                     have HE := Lib.hid (HS.out.next hb)
                                     clear hb)
                        go_ret
                        exact ⟨rfl, HE.out.bel⟩
                · have R2 := Lib.hid (reckon_good2 (op := 6) (n := p) (by rw [hpe]; exact div_back HA.out HBB.out (by rw [← hpe]; exact hs) hb0) (.inl rfl) (.inl rfl) hs HBB.out)
                  have nb1 : (b == 0) = false := by simpa using hb0
                  have nb2 : (b != 0) = true := by simpa using hb0
                  have f1 := eqB_one 2 a
                  clear hb0 hs hpe
                  go_upto_region 18 with (first
                    | (go_at_call 13; (with_reducible refine (WH.out a _).mono ?_); rintro e w11 ⟨rfl, hb11⟩
                       clear x0 x1 x2 y0 y1 y2
                       have H1 := Lib.hid (HS.out.next hb11)
                       obtain ⟨x0, x1, x2⟩ := box3 H1.out.x
                       obtain ⟨y0, y1, y2⟩ := box3 H1.out.y
                       clear hb11)
                    | (go_at_call 13; (with_reducible refine (WH.out b _).mono ?_); rintro e w12 ⟨rfl, hb12⟩
                       clear x0 x1 x2 y0 y1 y2
                       have H2 := Lib.hid (H1.out.next hb12)
                       obtain ⟨x0, x1, x2⟩ := box3 H2.out.x
                       obtain ⟨y0, y1, y2⟩ := box3 H2.out.y
                       clear hb12)
                    | (go_at_call 15; (with_reducible refine (R1.out _).mono ?_); rintro e w13 ⟨rfl, hb13⟩
                       clear x0 x1 x2 y0 y1 y2
                       have H3 := Lib.hid ((H2.out.next hb13).next (alloc_below w13 (.cells #[.int .i64 2, .int .i64 p, .string ⟨#[]⟩] 25)))
                       obtain ⟨x0, x1, x2⟩ := box3 H3.out.x
                       obtain ⟨y0, y1, y2⟩ := box3 H3.out.y
                       obtain ⟨s0, s1, s2⟩ := box3 (heap_alloc_new w13 (.cells #[.int .i64 2, .int .i64 p, .string ⟨#[]⟩] 25))
                       clear hb13))
                  obtain ⟨W6, hW6⟩ : ∃ W6, W6 = w13.alloc (.cells #[.int .i64 2, .int .i64 p, .string ⟨#[]⟩] 25) := ⟨_, rfl⟩
                  obtain ⟨g6, hg6⟩ : ∃ g6, g6 = w13.heap.size := ⟨_, rfl⟩
                  have HP6 : Hid (W6.heap[g6]? = some (.cells #[.int .i64 2, .int .i64 p, .string ⟨#[]⟩] 25 (0, 0))) := Lib.hid (by rw [hW6, hg6]; exact heap_alloc_new w13 _)
                  rw [← hW6] at H3 ⊢
                  rw [← hg6]
                  clear hW6 hg6 s0 s1 s2 x0 x1 x2 y0 y1 y2 R1
                  have HQ6 : Hid (∀ W, Below W6.heap.size W6 W → (W.cell? ⟨g6, 0, none⟩ = some (.int .i64 2) ∧ W.cell? ⟨g6, 1, none⟩ = some (.int .i64 p) ∧ W.cell? ⟨g6, 2, none⟩ = some (.string ⟨#[]⟩))) := Lib.hid fun W h => box3 ((h.block g6 (Array.getElem?_eq_some_iff.1 HP6.out).1).trans HP6.out)
                  go_cut [17, 18] (fun v17 v18 wx => BkD W6 a v17 v18 wx)
                  case first =>
                    go_region_held3 (fun W => (W.cell? ⟨g6, 0, none⟩ = some (.int .i64 2) ∧ W.cell? ⟨g6, 1, none⟩ = some (.int .i64 p) ∧ W.cell? ⟨g6, 2, none⟩ = some (.string ⟨#[]⟩)))
                      (first
                        | exact HQ6.out _ HC15.out
                        | exact HQ6.out _ (HC15.out.trans ((alloc_below _ _).mono HC15.out.size))
                        | exact HQ6.out _ (set3_below0 HC15.out (by first | exact HC1.out.size | exact Nat.le_refl _) _ _ _)
                        | exact HQ6.out _ HC1.out
                        | exact HQ6.out _ (HC1.out.trans ((alloc_below _ _).mono HC1.out.size))
                        | exact HQ6.out _ (drew_below _)
                        | exact HQ6.out _ ((drew_below _).trans ((alloc_below _ _).mono (Nat.le_refl _))))
                      (first
                      | (go_at_call 13; refine (WH.out b _).mono ?_; rintro e w14 ⟨rfl, hb14⟩
                         have HC1 : Hid (Below W6.heap.size W6 w14) := Lib.hid (by first | exact (drew_below W6).trans hb14 | exact ((drew_below W6).trans ((alloc_below _ _).mono (Nat.le_refl _))).trans (hb14.mono (by simp)))
                         (first
                           | (have hx := (hb14.block W6.heap.size (by simp)).trans (heap_alloc_new W6.drew (.cells #[.int .i64 0, .int .i64 0, .string ⟨#[]⟩] 25))
                              have HZ := Lib.hid hx
                              clear hx)
                           | skip)
                         clear hb14)
                      | (go_at_call 15; refine (R2.out _).mono ?_; rintro e w15 ⟨rfl, hb15⟩
                         have HC15 : Hid (Below W6.heap.size W6 w15) := Lib.hid (by first | exact HC1.out.trans (hb15.mono HC1.out.size) | exact (HC1.out.trans ((alloc_below w14 _).mono HC1.out.size)).trans (hb15.mono (by have := HC1.out.size; simp; omega)))
                         (first
                           | (have hx := (hb15.block w14.heap.size (by simp)).trans (heap_alloc_new w14 (.cells #[.int .i64 0, .int .i64 0, .string ⟨#[]⟩] 25))
                              have HZ := Lib.hid hx
                              obtain ⟨r0, r1, r2⟩ := box3 hx
                              have z0 := frozen3 hx 0
                              have z1 := frozen3 hx 1
                              have z2 := frozen3 hx 2
                              clear hx)
                           | (have hx := (hb15.block W6.heap.size (by have := HC1.out.size; have := (Array.getElem?_eq_some_iff.1 HZ.out).1; omega)).trans HZ.out
                              have HZ := Lib.hid hx
                              obtain ⟨r0, r1, r2⟩ := box3 hx
                              have z0 := frozen3 hx 0
                              have z1 := frozen3 hx 1
                              have z2 := frozen3 hx 2
                              clear hx)
                           | skip)
                         clear hb15)
                      | fail)
                    all_goals
                      go_wp2_with fail
                      go_meet
                      first
                        | exact ⟨_, rfl, rfl, heap_alloc_new w15 _, HC15.out.trans ((alloc_below w15 _).mono HC15.out.size)⟩
                        | exact ⟨_, rfl, rfl, heap_set3 HZ.out, set3_below0 HC15.out HC1.out.size _ _ _⟩
                        | exact ⟨_, rfl, rfl, heap_set3 HZ.out, set3_below0 HC15.out (Nat.le_refl _) _ _ _⟩
                  case rest =>
                    obtain ⟨W7, hW7, hcut7⟩ := BkD.world hcut
                    subst hW7
                    obtain ⟨g7, rfl, rfl, hp7, hb7⟩ := hcut7
                    have HS7 := Lib.hid (H3.out.next hb7)
                    have HP7 := Lib.hid hp7
                    clear hp7 hb7 hcut HQ6 H3 HP6 R2
                    have HQ7 : Hid (∀ W, Below W7.heap.size W7 W → (W.cell? ⟨g7, 0, none⟩ = some (.int .i64 2) ∧ W.cell? ⟨g7, 1, none⟩ = some (.int .i64 a) ∧ W.cell? ⟨g7, 2, none⟩ = some (.string ⟨#[]⟩))) := Lib.hid fun W h => box3 ((h.block g7 (Array.getElem?_eq_some_iff.1 HP7.out).1).trans HP7.out)
                    go_upto_region 19 with fail
                    go_region_held3 (fun W => (W.cell? ⟨g7, 0, none⟩ = some (.int .i64 2) ∧ W.cell? ⟨g7, 1, none⟩ = some (.int .i64 a) ∧ W.cell? ⟨g7, 2, none⟩ = some (.string ⟨#[]⟩)))
                      (first
                        | exact HQ7.out _ HC8.out
                        | exact HQ7.out _ (drew_below _))
                      (first
                      | (go_at_call 13; refine (WH.out a _).mono ?_; rintro e w16 ⟨rfl, hb16⟩
                         have HC8 := Lib.hid ((drew_below W7).trans hb16)
                         clear hb16)
                      | fail)
                    have HS := Lib.hid (HS7.out.next HC8.out)
                    clear HS7 HC8 HQ7 HP7 nb1 nb2
                    go_upto_region 21 with fail
                    as_aux_lemma =>
                      obtain ⟨x0, x1, x2⟩ := box3 HS.out.x
                      obtain ⟨y0, y1, y2⟩ := box3 HS.out.y
                      by_cases hmin : a = -9223372036854775808
                      · subst hmin
                        have R1 := Lib.hid (neg_bad2 k _ _ _ (neg_bad HK.out) HK.out HA.out)
                        go_upto_region 26 with (first
                          | (go_at_call 16; (with_reducible refine (R1.out _).mono ?_); rintro e w7 ⟨N7, rfl, hb7⟩
                             clear x0 x1 x2 y0 y1 y2
                             have H5 := Lib.hid ((HS.out.next hb7).next (alloc_below w7 (.cells #[.int .i64 0, .int .i64 0, .string ⟨#[]⟩] 25)))
                             obtain ⟨x0, x1, x2⟩ := box3 H5.out.x
                             obtain ⟨y0, y1, y2⟩ := box3 H5.out.y
                             clear hb7))
                        clear R1
                        clear x0 x1 x2 y0 y1 y2
                        have HS := Lib.hid H5.out
                        generalize w7.alloc (.cells #[.int .i64 0, .int .i64 0, .string ⟨#[]⟩] 25) = W5 at HS ⊢
                        as_aux_lemma =>
                          obtain ⟨x0, x1, x2⟩ := box3 HS.out.x
                          obtain ⟨y0, y1, y2⟩ := box3 HS.out.y
                          go_wp2_with (go_at_call 7; refine (AL.out _ (HG.out.below HS.out.bel)).mono ?_; rintro e w9 ⟨rfl, hb⟩
                                       have HE := Lib.hid (HS.out.next hb)
                                       clear hb)
                          go_ret
                          exact ⟨rfl, HE.out.bel⟩
                      · have hok : i64ok (-a) := by have := HA.out; unfold i64ok at this ⊢; omega
                        have hn2 : -a ≠ -9223372036854775808 := by have := HA.out; unfold i64ok at this; omega
                        have R1 := Lib.hid (neg_good k a (-a) (neg_ok HK.out HA.out hmin) HK.out HA.out)
                        have R2 := Lib.hid (neg_good k (-a) a (by rw [neg_ok HK.out hok hn2, Int.neg_neg]) HK.out hok)
                        have m1 : (a == -9223372036854775808) = false := by simpa using hmin
                        have m2 : (a != -9223372036854775808) = true := by simpa using hmin
                        obtain ⟨na, hna⟩ : ∃ na, na = -a := ⟨_, rfl⟩
                        rw [← hna] at R1 R2
                        clear hok hn2 hmin hna
                        have M1 := Lib.hid m1
                        have M2 := Lib.hid m2
                        clear m1 m2
                        go_upto_region 26 with (first
                          | (go_at_call 16; (with_reducible refine (R1.out _).mono ?_); rintro e w7 ⟨rfl, hb7⟩
                             clear x0 x1 x2 y0 y1 y2
                             have H5 := Lib.hid ((HS.out.next hb7).next (alloc_below w7 (.cells #[.int .i64 k, .int .i64 na, .string ⟨#[]⟩] 25)))
                             obtain ⟨x0, x1, x2⟩ := box3 H5.out.x
                             obtain ⟨y0, y1, y2⟩ := box3 H5.out.y
                             obtain ⟨s0, s1, s2⟩ := box3 (heap_alloc_new w7 (.cells #[.int .i64 k, .int .i64 na, .string ⟨#[]⟩] 25))
                             clear hb7)
                          | (go_at_call 16; (with_reducible refine (R2.out _).mono ?_); rintro e w8 ⟨rfl, hb8⟩
                             clear x0 x1 x2 y0 y1 y2
                             have H6 := Lib.hid ((H5.out.next hb8).next (alloc_below w8 (.cells #[.int .i64 k, .int .i64 a, .string ⟨#[]⟩] 25)))
                             obtain ⟨x0, x1, x2⟩ := box3 H6.out.x
                             obtain ⟨y0, y1, y2⟩ := box3 H6.out.y
                             obtain ⟨t0, t1, t2⟩ := box3 (heap_alloc_new w8 (.cells #[.int .i64 k, .int .i64 a, .string ⟨#[]⟩] 25))
                             clear hb8))
                        clear R1 R2 s0 s1 s2 t0 t1 t2
                        clear x0 x1 x2 y0 y1 y2
                        have HS := Lib.hid H6.out
                        generalize w8.alloc (.cells #[.int .i64 k, .int .i64 a, .string ⟨#[]⟩] 25) = W5 at HS ⊢
                        as_aux_lemma =>
                          obtain ⟨x0, x1, x2⟩ := box3 HS.out.x
                          obtain ⟨y0, y1, y2⟩ := box3 HS.out.y
                          have m1 := M1.out
                          have m2 := M2.out
                          go_wp2_with (go_at_call 7; refine (AL.out _ (HG.out.below HS.out.bel)).mono ?_; rintro e w9 ⟨rfl, hb⟩
                                       have HE := Lib.hid (HS.out.next hb)
                                       clear hb)
                          go_ret
                          exact ⟨rfl, HE.out.bel⟩
              · have R1 := Lib.hid (reckon_bad2 h (.inl rfl) (.inl rfl) HA.out HBB.out)
                clear h
                go_upto_region 21 with (first
                  | (go_at_call 13; (with_reducible refine (WH.out a _).mono ?_); rintro e w11 ⟨rfl, hb11⟩
                     clear x0 x1 x2 y0 y1 y2
                     have H1 := Lib.hid (HS.out.next hb11)
                     obtain ⟨x0, x1, x2⟩ := box3 H1.out.x
                     obtain ⟨y0, y1, y2⟩ := box3 H1.out.y
                     clear hb11)
                  | (go_at_call 13; (with_reducible refine (WH.out b _).mono ?_); rintro e w12 ⟨rfl, hb12⟩
                     clear x0 x1 x2 y0 y1 y2
                     have H2 := Lib.hid (H1.out.next hb12)
                     obtain ⟨x0, x1, x2⟩ := box3 H2.out.x
                     obtain ⟨y0, y1, y2⟩ := box3 H2.out.y
                     clear hb12)
                  | (go_at_call 15; (with_reducible refine (R1.out _).mono ?_); rintro e w13 ⟨N13, rfl, hb13⟩
                     clear x0 x1 x2 y0 y1 y2
                     have H3 := Lib.hid ((H2.out.next hb13).next (alloc_below w13 (.cells #[.int .i64 0, .int .i64 0, .string ⟨#[]⟩] 25)))
                     obtain ⟨x0, x1, x2⟩ := box3 H3.out.x
                     obtain ⟨y0, y1, y2⟩ := box3 H3.out.y
                     clear hb13))
                clear R1
                clear x0 x1 x2 y0 y1 y2
                have HS := Lib.hid H3.out
                generalize w13.alloc (.cells #[.int .i64 0, .int .i64 0, .string ⟨#[]⟩] 25) = W4 at HS ⊢
                as_aux_lemma =>
                  obtain ⟨x0, x1, x2⟩ := box3 HS.out.x
                  obtain ⟨y0, y1, y2⟩ := box3 HS.out.y
                  by_cases hmin : a = -9223372036854775808
                  · subst hmin
                    have R1 := Lib.hid (neg_bad2 k _ _ _ (neg_bad HK.out) HK.out HA.out)
                    go_upto_region 26 with (first
                      | (go_at_call 16; (with_reducible refine (R1.out _).mono ?_); rintro e w7 ⟨N7, rfl, hb7⟩
                         clear x0 x1 x2 y0 y1 y2
                         have H5 := Lib.hid ((HS.out.next hb7).next (alloc_below w7 (.cells #[.int .i64 0, .int .i64 0, .string ⟨#[]⟩] 25)))
                         obtain ⟨x0, x1, x2⟩ := box3 H5.out.x
                         obtain ⟨y0, y1, y2⟩ := box3 H5.out.y
                         clear hb7))
                    clear R1
                    clear x0 x1 x2 y0 y1 y2
                    have HS := Lib.hid H5.out
                    generalize w7.alloc (.cells #[.int .i64 0, .int .i64 0, .string ⟨#[]⟩] 25) = W5 at HS ⊢
                    as_aux_lemma =>
                      obtain ⟨x0, x1, x2⟩ := box3 HS.out.x
                      obtain ⟨y0, y1, y2⟩ := box3 HS.out.y
                      go_wp2_with (go_at_call 7; refine (AL.out _ (HG.out.below HS.out.bel)).mono ?_; rintro e w9 ⟨rfl, hb⟩
                                   have HE := Lib.hid (HS.out.next hb)
                                   clear hb)
                      go_ret
                      exact ⟨rfl, HE.out.bel⟩
                  · have hok : i64ok (-a) := by have := HA.out; unfold i64ok at this ⊢; omega
                    have hn2 : -a ≠ -9223372036854775808 := by have := HA.out; unfold i64ok at this; omega
                    have R1 := Lib.hid (neg_good k a (-a) (neg_ok HK.out HA.out hmin) HK.out HA.out)
                    have R2 := Lib.hid (neg_good k (-a) a (by rw [neg_ok HK.out hok hn2, Int.neg_neg]) HK.out hok)
                    have m1 : (a == -9223372036854775808) = false := by simpa using hmin
                    have m2 : (a != -9223372036854775808) = true := by simpa using hmin
                    obtain ⟨na, hna⟩ : ∃ na, na = -a := ⟨_, rfl⟩
                    rw [← hna] at R1 R2
                    clear hok hn2 hmin hna
                    have M1 := Lib.hid m1
                    have M2 := Lib.hid m2
                    clear m1 m2
                    go_upto_region 26 with (first
                      | (go_at_call 16; (with_reducible refine (R1.out _).mono ?_); rintro e w7 ⟨rfl, hb7⟩
                         clear x0 x1 x2 y0 y1 y2
                         have H5 := Lib.hid ((HS.out.next hb7).next (alloc_below w7 (.cells #[.int .i64 k, .int .i64 na, .string ⟨#[]⟩] 25)))
                         obtain ⟨x0, x1, x2⟩ := box3 H5.out.x
                         obtain ⟨y0, y1, y2⟩ := box3 H5.out.y
                         obtain ⟨s0, s1, s2⟩ := box3 (heap_alloc_new w7 (.cells #[.int .i64 k, .int .i64 na, .string ⟨#[]⟩] 25))
                         clear hb7)
                      | (go_at_call 16; (with_reducible refine (R2.out _).mono ?_); rintro e w8 ⟨rfl, hb8⟩
                         clear x0 x1 x2 y0 y1 y2
                         have H6 := Lib.hid ((H5.out.next hb8).next (alloc_below w8 (.cells #[.int .i64 k, .int .i64 a, .string ⟨#[]⟩] 25)))
                         obtain ⟨x0, x1, x2⟩ := box3 H6.out.x
                         obtain ⟨y0, y1, y2⟩ := box3 H6.out.y
                         obtain ⟨t0, t1, t2⟩ := box3 (heap_alloc_new w8 (.cells #[.int .i64 k, .int .i64 a, .string ⟨#[]⟩] 25))
                         clear hb8))
                    clear R1 R2 s0 s1 s2 t0 t1 t2
                    clear x0 x1 x2 y0 y1 y2
                    have HS := Lib.hid H6.out
                    generalize w8.alloc (.cells #[.int .i64 k, .int .i64 a, .string ⟨#[]⟩] 25) = W5 at HS ⊢
                    as_aux_lemma =>
                      obtain ⟨x0, x1, x2⟩ := box3 HS.out.x
                      obtain ⟨y0, y1, y2⟩ := box3 HS.out.y
                      have m1 := M1.out
                      have m2 := M2.out
                      go_wp2_with (go_at_call 7; refine (AL.out _ (HG.out.below HS.out.bel)).mono ?_; rintro e w9 ⟨rfl, hb⟩
                                   have HE := Lib.hid (HS.out.next hb)
                                   clear hb)
                      go_ret
                      exact ⟨rfl, HE.out.bel⟩
      · have R1 := Lib.hid (reckon_bad2 h HK.out HK.out HA.out HBB.out)
        clear h
        go_upto_region 11 with (first
          | (go_at_call 15; (with_reducible refine (R1.out _).mono ?_); rintro e w5 ⟨N5, rfl, hb5⟩
             clear x0 x1 x2 y0 y1 y2
             have H5 := Lib.hid ((HS.out.next hb5).next (alloc_below w5 (.cells #[.int .i64 0, .int .i64 0, .string ⟨#[]⟩] 25)))
             obtain ⟨x0, x1, x2⟩ := box3 H5.out.x
             obtain ⟨y0, y1, y2⟩ := box3 H5.out.y
             clear hb5))
        clear R1
        clear x0 x1 x2 y0 y1 y2
        have HS := Lib.hid H5.out
        generalize w5.alloc (.cells #[.int .i64 0, .int .i64 0, .string ⟨#[]⟩] 25) = W2 at HS ⊢
        as_aux_lemma =>
          obtain ⟨x0, x1, x2⟩ := box3 HS.out.x
          obtain ⟨y0, y1, y2⟩ := box3 HS.out.y
          rcases back_sub HK.out HA.out HBB.out with h | h
          · obtain ⟨h, hs⟩ := h
            obtain ⟨s, hse⟩ : ∃ s, s = a - b := ⟨_, rfl⟩
            rw [← hse] at h hs
            have R1 := Lib.hid (reckon_good2 h HK.out HK.out HA.out HBB.out)
            have R2 := Lib.hid (reckon_good2 (op := 3) (n := s) (by rw [hse]; exact add_back HK.out HA.out HBB.out (by rw [← hse]; exact hs)) HK.out HK.out hs HBB.out)
            clear h hs hse
            go_upto_region 16 with (first
              | (go_at_call 15; (with_reducible refine (R1.out _).mono ?_); rintro e w5 ⟨rfl, hb5⟩
                 clear x0 x1 x2 y0 y1 y2
                 have H5 := Lib.hid ((HS.out.next hb5).next (alloc_below w5 (.cells #[.int .i64 k, .int .i64 s, .string ⟨#[]⟩] 25)))
                 obtain ⟨x0, x1, x2⟩ := box3 H5.out.x
                 obtain ⟨y0, y1, y2⟩ := box3 H5.out.y
                 obtain ⟨s0, s1, s2⟩ := box3 (heap_alloc_new w5 (.cells #[.int .i64 k, .int .i64 s, .string ⟨#[]⟩] 25))
                 clear hb5)
              | (go_at_call 15; (with_reducible refine (R2.out _).mono ?_); rintro e w6 ⟨rfl, hb6⟩
                 clear x0 x1 x2 y0 y1 y2
                 have H6 := Lib.hid ((H5.out.next hb6).next (alloc_below w6 (.cells #[.int .i64 k, .int .i64 a, .string ⟨#[]⟩] 25)))
                 obtain ⟨x0, x1, x2⟩ := box3 H6.out.x
                 obtain ⟨y0, y1, y2⟩ := box3 H6.out.y
                 obtain ⟨t0, t1, t2⟩ := box3 (heap_alloc_new w6 (.cells #[.int .i64 k, .int .i64 a, .string ⟨#[]⟩] 25))
                 clear hb6))
            clear R1 R2 s0 s1 s2 t0 t1 t2
            clear x0 x1 x2 y0 y1 y2
            have HS := Lib.hid H6.out
            generalize w6.alloc (.cells #[.int .i64 k, .int .i64 a, .string ⟨#[]⟩] 25) = W3 at HS ⊢
            as_aux_lemma =>
              obtain ⟨x0, x1, x2⟩ := box3 HS.out.x
              obtain ⟨y0, y1, y2⟩ := box3 HS.out.y
              rcases back_mul HA.out HBB.out with h | h
              · obtain ⟨h, hs⟩ := h
                obtain ⟨p, hpe⟩ : ∃ p, p = a * b := ⟨_, rfl⟩
                rw [← hpe] at h hs
                have R1 := Lib.hid (reckon_good2 h (.inl rfl) (.inl rfl) HA.out HBB.out)
                clear h
                by_cases hb0 : b = 0
                · clear hs hpe
                  subst hb0
                  go_upto_region 21 with (first
                    | (go_at_call 13; (with_reducible refine (WH.out a _).mono ?_); rintro e w11 ⟨rfl, hb11⟩
                       clear x0 x1 x2 y0 y1 y2
                       have H1 := Lib.hid (HS.out.next hb11)
                       obtain ⟨x0, x1, x2⟩ := box3 H1.out.x
                       obtain ⟨y0, y1, y2⟩ := box3 H1.out.y
                       clear hb11)
                    | (go_at_call 13; (with_reducible refine (WH.out 0 _).mono ?_); rintro e w12 ⟨rfl, hb12⟩
                       clear x0 x1 x2 y0 y1 y2
                       have H2 := Lib.hid (H1.out.next hb12)
                       obtain ⟨x0, x1, x2⟩ := box3 H2.out.x
                       obtain ⟨y0, y1, y2⟩ := box3 H2.out.y
                       clear hb12)
                    | (go_at_call 15; (with_reducible refine (R1.out _).mono ?_); rintro e w13 ⟨rfl, hb13⟩
                       clear x0 x1 x2 y0 y1 y2
                       have H3 := Lib.hid ((H2.out.next hb13).next (alloc_below w13 (.cells #[.int .i64 2, .int .i64 p, .string ⟨#[]⟩] 25)))
                       obtain ⟨x0, x1, x2⟩ := box3 H3.out.x
                       obtain ⟨y0, y1, y2⟩ := box3 H3.out.y
                       obtain ⟨s0, s1, s2⟩ := box3 (heap_alloc_new w13 (.cells #[.int .i64 2, .int .i64 p, .string ⟨#[]⟩] 25))
                       clear hb13))
                  clear R1 s0 s1 s2
                  clear x0 x1 x2 y0 y1 y2
                  have HS := Lib.hid H3.out
                  generalize w13.alloc (.cells #[.int .i64 2, .int .i64 p, .string ⟨#[]⟩] 25) = W4 at HS ⊢
                  as_aux_lemma =>
                    obtain ⟨x0, x1, x2⟩ := box3 HS.out.x
                    obtain ⟨y0, y1, y2⟩ := box3 HS.out.y
                    by_cases hmin : a = -9223372036854775808
                    · subst hmin
                      have R1 := Lib.hid (neg_bad2 k _ _ _ (neg_bad HK.out) HK.out HA.out)
                      go_upto_region 26 with (first
                        | (go_at_call 16; (with_reducible refine (R1.out _).mono ?_); rintro e w7 ⟨N7, rfl, hb7⟩
                           clear x0 x1 x2 y0 y1 y2
                           have H5 := Lib.hid ((HS.out.next hb7).next (alloc_below w7 (.cells #[.int .i64 0, .int .i64 0, .string ⟨#[]⟩] 25)))
                           obtain ⟨x0, x1, x2⟩ := box3 H5.out.x
                           obtain ⟨y0, y1, y2⟩ := box3 H5.out.y
                           clear hb7))
                      clear R1
                      clear x0 x1 x2 y0 y1 y2
                      have HS := Lib.hid H5.out
                      generalize w7.alloc (.cells #[.int .i64 0, .int .i64 0, .string ⟨#[]⟩] 25) = W5 at HS ⊢
                      as_aux_lemma =>
                        obtain ⟨x0, x1, x2⟩ := box3 HS.out.x
                        obtain ⟨y0, y1, y2⟩ := box3 HS.out.y
                        go_wp2_with (go_at_call 7; refine (AL.out _ (HG.out.below HS.out.bel)).mono ?_; rintro e w9 ⟨rfl, hb⟩
                                     have HE := Lib.hid (HS.out.next hb)
                                     clear hb)
                        go_ret
                        exact ⟨rfl, HE.out.bel⟩
                    · have hok : i64ok (-a) := by have := HA.out; unfold i64ok at this ⊢; omega
                      have hn2 : -a ≠ -9223372036854775808 := by have := HA.out; unfold i64ok at this; omega
                      have R1 := Lib.hid (neg_good k a (-a) (neg_ok HK.out HA.out hmin) HK.out HA.out)
                      have R2 := Lib.hid (neg_good k (-a) a (by rw [neg_ok HK.out hok hn2, Int.neg_neg]) HK.out hok)
                      have m1 : (a == -9223372036854775808) = false := by simpa using hmin
                      have m2 : (a != -9223372036854775808) = true := by simpa using hmin
                      obtain ⟨na, hna⟩ : ∃ na, na = -a := ⟨_, rfl⟩
                      rw [← hna] at R1 R2
                      clear hok hn2 hmin hna
                      have M1 := Lib.hid m1
                      have M2 := Lib.hid m2
                      clear m1 m2
                      go_upto_region 26 with (first
                        | (go_at_call 16; (with_reducible refine (R1.out _).mono ?_); rintro e w7 ⟨rfl, hb7⟩
                           clear x0 x1 x2 y0 y1 y2
                           have H5 := Lib.hid ((HS.out.next hb7).next (alloc_below w7 (.cells #[.int .i64 k, .int .i64 na, .string ⟨#[]⟩] 25)))
                           obtain ⟨x0, x1, x2⟩ := box3 H5.out.x
                           obtain ⟨y0, y1, y2⟩ := box3 H5.out.y
                           obtain ⟨s0, s1, s2⟩ := box3 (heap_alloc_new w7 (.cells #[.int .i64 k, .int .i64 na, .string ⟨#[]⟩] 25))
                           clear hb7)
                        | (go_at_call 16; (with_reducible refine (R2.out _).mono ?_); rintro e w8 ⟨rfl, hb8⟩
                           clear x0 x1 x2 y0 y1 y2
                           have H6 := Lib.hid ((H5.out.next hb8).next (alloc_below w8 (.cells #[.int .i64 k, .int .i64 a, .string ⟨#[]⟩] 25)))
                           obtain ⟨x0, x1, x2⟩ := box3 H6.out.x
                           obtain ⟨y0, y1, y2⟩ := box3 H6.out.y
                           obtain ⟨t0, t1, t2⟩ := box3 (heap_alloc_new w8 (.cells #[.int .i64 k, .int .i64 a, .string ⟨#[]⟩] 25))
                           clear hb8))
                      clear R1 R2 s0 s1 s2 t0 t1 t2
                      clear x0 x1 x2 y0 y1 y2
                      have HS := Lib.hid H6.out
                      generalize w8.alloc (.cells #[.int .i64 k, .int .i64 a, .string ⟨#[]⟩] 25) = W5 at HS ⊢
                      as_aux_lemma =>
                        obtain ⟨x0, x1, x2⟩ := box3 HS.out.x
                        obtain ⟨y0, y1, y2⟩ := box3 HS.out.y
                        have m1 := M1.out
                        have m2 := M2.out
                        go_wp2_with (go_at_call 7; refine (AL.out _ (HG.out.below HS.out.bel)).mono ?_; rintro e w9 ⟨rfl, hb⟩
                                     have HE := Lib.hid (HS.out.next hb)
                                     clear hb)
                        go_ret
                        exact ⟨rfl, HE.out.bel⟩
                · have R2 := Lib.hid (reckon_good2 (op := 6) (n := p) (by rw [hpe]; exact div_back HA.out HBB.out (by rw [← hpe]; exact hs) hb0) (.inl rfl) (.inl rfl) hs HBB.out)
                  have nb1 : (b == 0) = false := by simpa using hb0
                  have nb2 : (b != 0) = true := by simpa using hb0
                  have f1 := eqB_one 2 a
                  clear hb0 hs hpe
                  go_upto_region 18 with (first
                    | (go_at_call 13; (with_reducible refine (WH.out a _).mono ?_); rintro e w11 ⟨rfl, hb11⟩
                       clear x0 x1 x2 y0 y1 y2
                       have H1 := Lib.hid (HS.out.next hb11)
                       obtain ⟨x0, x1, x2⟩ := box3 H1.out.x
                       obtain ⟨y0, y1, y2⟩ := box3 H1.out.y
                       clear hb11)
                    | (go_at_call 13; (with_reducible refine (WH.out b _).mono ?_); rintro e w12 ⟨rfl, hb12⟩
                       clear x0 x1 x2 y0 y1 y2
                       have H2 := Lib.hid (H1.out.next hb12)
                       obtain ⟨x0, x1, x2⟩ := box3 H2.out.x
                       obtain ⟨y0, y1, y2⟩ := box3 H2.out.y
                       clear hb12)
                    | (go_at_call 15; (with_reducible refine (R1.out _).mono ?_); rintro e w13 ⟨rfl, hb13⟩
                       clear x0 x1 x2 y0 y1 y2
                       have H3 := Lib.hid ((H2.out.next hb13).next (alloc_below w13 (.cells #[.int .i64 2, .int .i64 p, .string ⟨#[]⟩] 25)))
                       obtain ⟨x0, x1, x2⟩ := box3 H3.out.x
                       obtain ⟨y0, y1, y2⟩ := box3 H3.out.y
                       obtain ⟨s0, s1, s2⟩ := box3 (heap_alloc_new w13 (.cells #[.int .i64 2, .int .i64 p, .string ⟨#[]⟩] 25))
                       clear hb13))
                  obtain ⟨W6, hW6⟩ : ∃ W6, W6 = w13.alloc (.cells #[.int .i64 2, .int .i64 p, .string ⟨#[]⟩] 25) := ⟨_, rfl⟩
                  obtain ⟨g6, hg6⟩ : ∃ g6, g6 = w13.heap.size := ⟨_, rfl⟩
                  have HP6 : Hid (W6.heap[g6]? = some (.cells #[.int .i64 2, .int .i64 p, .string ⟨#[]⟩] 25 (0, 0))) := Lib.hid (by rw [hW6, hg6]; exact heap_alloc_new w13 _)
                  rw [← hW6] at H3 ⊢
                  rw [← hg6]
                  clear hW6 hg6 s0 s1 s2 x0 x1 x2 y0 y1 y2 R1
                  have HQ6 : Hid (∀ W, Below W6.heap.size W6 W → (W.cell? ⟨g6, 0, none⟩ = some (.int .i64 2) ∧ W.cell? ⟨g6, 1, none⟩ = some (.int .i64 p) ∧ W.cell? ⟨g6, 2, none⟩ = some (.string ⟨#[]⟩))) := Lib.hid fun W h => box3 ((h.block g6 (Array.getElem?_eq_some_iff.1 HP6.out).1).trans HP6.out)
                  go_cut [17, 18] (fun v17 v18 wx => BkD W6 a v17 v18 wx)
                  case first =>
                    go_region_held3 (fun W => (W.cell? ⟨g6, 0, none⟩ = some (.int .i64 2) ∧ W.cell? ⟨g6, 1, none⟩ = some (.int .i64 p) ∧ W.cell? ⟨g6, 2, none⟩ = some (.string ⟨#[]⟩)))
                      (first
                        | exact HQ6.out _ HC15.out
                        | exact HQ6.out _ (HC15.out.trans ((alloc_below _ _).mono HC15.out.size))
                        | exact HQ6.out _ (set3_below0 HC15.out (by first | exact HC1.out.size | exact Nat.le_refl _) _ _ _)
                        | exact HQ6.out _ HC1.out
                        | exact HQ6.out _ (HC1.out.trans ((alloc_below _ _).mono HC1.out.size))
                        | exact HQ6.out _ (drew_below _)
                        | exact HQ6.out _ ((drew_below _).trans ((alloc_below _ _).mono (Nat.le_refl _))))
                      (first
                      | (go_at_call 13; refine (WH.out b _).mono ?_; rintro e w14 ⟨rfl, hb14⟩
                         have HC1 : Hid (Below W6.heap.size W6 w14) := Lib.hid (by first | exact (drew_below W6).trans hb14 | exact ((drew_below W6).trans ((alloc_below _ _).mono (Nat.le_refl _))).trans (hb14.mono (by simp)))
                         (first
                           | (have hx := (hb14.block W6.heap.size (by simp)).trans (heap_alloc_new W6.drew (.cells #[.int .i64 0, .int .i64 0, .string ⟨#[]⟩] 25))
                              have HZ := Lib.hid hx
                              clear hx)
                           | skip)
                         clear hb14)
                      | (go_at_call 15; refine (R2.out _).mono ?_; rintro e w15 ⟨rfl, hb15⟩
                         have HC15 : Hid (Below W6.heap.size W6 w15) := Lib.hid (by first | exact HC1.out.trans (hb15.mono HC1.out.size) | exact (HC1.out.trans ((alloc_below w14 _).mono HC1.out.size)).trans (hb15.mono (by have := HC1.out.size; simp; omega)))
                         (first
                           | (have hx := (hb15.block w14.heap.size (by simp)).trans (heap_alloc_new w14 (.cells #[.int .i64 0, .int .i64 0, .string ⟨#[]⟩] 25))
                              have HZ := Lib.hid hx
                              obtain ⟨r0, r1, r2⟩ := box3 hx
                              have z0 := frozen3 hx 0
                              have z1 := frozen3 hx 1
                              have z2 := frozen3 hx 2
                              clear hx)
                           | (have hx := (hb15.block W6.heap.size (by have := HC1.out.size; have := (Array.getElem?_eq_some_iff.1 HZ.out).1; omega)).trans HZ.out
                              have HZ := Lib.hid hx
                              obtain ⟨r0, r1, r2⟩ := box3 hx
                              have z0 := frozen3 hx 0
                              have z1 := frozen3 hx 1
                              have z2 := frozen3 hx 2
                              clear hx)
                           | skip)
                         clear hb15)
                      | fail)
                    all_goals
                      go_wp2_with fail
                      go_meet
                      first
                        | exact ⟨_, rfl, rfl, heap_alloc_new w15 _, HC15.out.trans ((alloc_below w15 _).mono HC15.out.size)⟩
                        | exact ⟨_, rfl, rfl, heap_set3 HZ.out, set3_below0 HC15.out HC1.out.size _ _ _⟩
                        | exact ⟨_, rfl, rfl, heap_set3 HZ.out, set3_below0 HC15.out (Nat.le_refl _) _ _ _⟩
                  case rest =>
                    obtain ⟨W7, hW7, hcut7⟩ := BkD.world hcut
                    subst hW7
                    obtain ⟨g7, rfl, rfl, hp7, hb7⟩ := hcut7
                    have HS7 := Lib.hid (H3.out.next hb7)
                    have HP7 := Lib.hid hp7
                    clear hp7 hb7 hcut HQ6 H3 HP6 R2
                    have HQ7 : Hid (∀ W, Below W7.heap.size W7 W → (W.cell? ⟨g7, 0, none⟩ = some (.int .i64 2) ∧ W.cell? ⟨g7, 1, none⟩ = some (.int .i64 a) ∧ W.cell? ⟨g7, 2, none⟩ = some (.string ⟨#[]⟩))) := Lib.hid fun W h => box3 ((h.block g7 (Array.getElem?_eq_some_iff.1 HP7.out).1).trans HP7.out)
                    go_upto_region 19 with fail
                    go_region_held3 (fun W => (W.cell? ⟨g7, 0, none⟩ = some (.int .i64 2) ∧ W.cell? ⟨g7, 1, none⟩ = some (.int .i64 a) ∧ W.cell? ⟨g7, 2, none⟩ = some (.string ⟨#[]⟩)))
                      (first
                        | exact HQ7.out _ HC8.out
                        | exact HQ7.out _ (drew_below _))
                      (first
                      | (go_at_call 13; refine (WH.out a _).mono ?_; rintro e w16 ⟨rfl, hb16⟩
                         have HC8 := Lib.hid ((drew_below W7).trans hb16)
                         clear hb16)
                      | fail)
                    have HS := Lib.hid (HS7.out.next HC8.out)
                    clear HS7 HC8 HQ7 HP7 nb1 nb2
                    go_upto_region 21 with fail
                    as_aux_lemma =>
                      obtain ⟨x0, x1, x2⟩ := box3 HS.out.x
                      obtain ⟨y0, y1, y2⟩ := box3 HS.out.y
                      by_cases hmin : a = -9223372036854775808
                      · subst hmin
                        have R1 := Lib.hid (neg_bad2 k _ _ _ (neg_bad HK.out) HK.out HA.out)
                        go_upto_region 26 with (first
                          | (go_at_call 16; (with_reducible refine (R1.out _).mono ?_); rintro e w7 ⟨N7, rfl, hb7⟩
                             clear x0 x1 x2 y0 y1 y2
                             have H5 := Lib.hid ((HS.out.next hb7).next (alloc_below w7 (.cells #[.int .i64 0, .int .i64 0, .string ⟨#[]⟩] 25)))
                             obtain ⟨x0, x1, x2⟩ := box3 H5.out.x
                             obtain ⟨y0, y1, y2⟩ := box3 H5.out.y
                             clear hb7))
                        clear R1
                        clear x0 x1 x2 y0 y1 y2
                        have HS := Lib.hid H5.out
                        generalize w7.alloc (.cells #[.int .i64 0, .int .i64 0, .string ⟨#[]⟩] 25) = W5 at HS ⊢
                        as_aux_lemma =>
                          obtain ⟨x0, x1, x2⟩ := box3 HS.out.x
                          obtain ⟨y0, y1, y2⟩ := box3 HS.out.y
                          go_wp2_with (go_at_call 7; refine (AL.out _ (HG.out.below HS.out.bel)).mono ?_; rintro e w9 ⟨rfl, hb⟩
                                       have HE := Lib.hid (HS.out.next hb)
                                       clear hb)
                          go_ret
                          exact ⟨rfl, HE.out.bel⟩
                      · have hok : i64ok (-a) := by have := HA.out; unfold i64ok at this ⊢; omega
                        have hn2 : -a ≠ -9223372036854775808 := by have := HA.out; unfold i64ok at this; omega
                        have R1 := Lib.hid (neg_good k a (-a) (neg_ok HK.out HA.out hmin) HK.out HA.out)
                        have R2 := Lib.hid (neg_good k (-a) a (by rw [neg_ok HK.out hok hn2, Int.neg_neg]) HK.out hok)
                        have m1 : (a == -9223372036854775808) = false := by simpa using hmin
                        have m2 : (a != -9223372036854775808) = true := by simpa using hmin
                        obtain ⟨na, hna⟩ : ∃ na, na = -a := ⟨_, rfl⟩
                        rw [← hna] at R1 R2
                        clear hok hn2 hmin hna
                        have M1 := Lib.hid m1
                        have M2 := Lib.hid m2
                        clear m1 m2
                        go_upto_region 26 with (first
                          | (go_at_call 16; (with_reducible refine (R1.out _).mono ?_); rintro e w7 ⟨rfl, hb7⟩
                             clear x0 x1 x2 y0 y1 y2
                             have H5 := Lib.hid ((HS.out.next hb7).next (alloc_below w7 (.cells #[.int .i64 k, .int .i64 na, .string ⟨#[]⟩] 25)))
                             obtain ⟨x0, x1, x2⟩ := box3 H5.out.x
                             obtain ⟨y0, y1, y2⟩ := box3 H5.out.y
                             obtain ⟨s0, s1, s2⟩ := box3 (heap_alloc_new w7 (.cells #[.int .i64 k, .int .i64 na, .string ⟨#[]⟩] 25))
                             clear hb7)
                          | (go_at_call 16; (with_reducible refine (R2.out _).mono ?_); rintro e w8 ⟨rfl, hb8⟩
                             clear x0 x1 x2 y0 y1 y2
                             have H6 := Lib.hid ((H5.out.next hb8).next (alloc_below w8 (.cells #[.int .i64 k, .int .i64 a, .string ⟨#[]⟩] 25)))
                             obtain ⟨x0, x1, x2⟩ := box3 H6.out.x
                             obtain ⟨y0, y1, y2⟩ := box3 H6.out.y
                             obtain ⟨t0, t1, t2⟩ := box3 (heap_alloc_new w8 (.cells #[.int .i64 k, .int .i64 a, .string ⟨#[]⟩] 25))
                             clear hb8))
                        clear R1 R2 s0 s1 s2 t0 t1 t2
                        clear x0 x1 x2 y0 y1 y2
                        have HS := Lib.hid H6.out
                        generalize w8.alloc (.cells #[.int .i64 k, .int .i64 a, .string ⟨#[]⟩] 25) = W5 at HS ⊢
                        as_aux_lemma =>
                          obtain ⟨x0, x1, x2⟩ := box3 HS.out.x
                          obtain ⟨y0, y1, y2⟩ := box3 HS.out.y
                          have m1 := M1.out
                          have m2 := M2.out
                          go_wp2_with (go_at_call 7; refine (AL.out _ (HG.out.below HS.out.bel)).mono ?_; rintro e w9 ⟨rfl, hb⟩
                                       have HE := Lib.hid (HS.out.next hb)
                                       clear hb)
                          go_ret
                          exact ⟨rfl, HE.out.bel⟩
              · have R1 := Lib.hid (reckon_bad2 h (.inl rfl) (.inl rfl) HA.out HBB.out)
                clear h
                go_upto_region 21 with (first
                  | (go_at_call 13; (with_reducible refine (WH.out a _).mono ?_); rintro e w11 ⟨rfl, hb11⟩
                     clear x0 x1 x2 y0 y1 y2
                     have H1 := Lib.hid (HS.out.next hb11)
                     obtain ⟨x0, x1, x2⟩ := box3 H1.out.x
                     obtain ⟨y0, y1, y2⟩ := box3 H1.out.y
                     clear hb11)
                  | (go_at_call 13; (with_reducible refine (WH.out b _).mono ?_); rintro e w12 ⟨rfl, hb12⟩
                     clear x0 x1 x2 y0 y1 y2
                     have H2 := Lib.hid (H1.out.next hb12)
                     obtain ⟨x0, x1, x2⟩ := box3 H2.out.x
                     obtain ⟨y0, y1, y2⟩ := box3 H2.out.y
                     clear hb12)
                  | (go_at_call 15; (with_reducible refine (R1.out _).mono ?_); rintro e w13 ⟨N13, rfl, hb13⟩
                     clear x0 x1 x2 y0 y1 y2
                     have H3 := Lib.hid ((H2.out.next hb13).next (alloc_below w13 (.cells #[.int .i64 0, .int .i64 0, .string ⟨#[]⟩] 25)))
                     obtain ⟨x0, x1, x2⟩ := box3 H3.out.x
                     obtain ⟨y0, y1, y2⟩ := box3 H3.out.y
                     clear hb13))
                clear R1
                clear x0 x1 x2 y0 y1 y2
                have HS := Lib.hid H3.out
                generalize w13.alloc (.cells #[.int .i64 0, .int .i64 0, .string ⟨#[]⟩] 25) = W4 at HS ⊢
                as_aux_lemma =>
                  obtain ⟨x0, x1, x2⟩ := box3 HS.out.x
                  obtain ⟨y0, y1, y2⟩ := box3 HS.out.y
                  by_cases hmin : a = -9223372036854775808
                  · subst hmin
                    have R1 := Lib.hid (neg_bad2 k _ _ _ (neg_bad HK.out) HK.out HA.out)
                    go_upto_region 26 with (first
                      | (go_at_call 16; (with_reducible refine (R1.out _).mono ?_); rintro e w7 ⟨N7, rfl, hb7⟩
                         clear x0 x1 x2 y0 y1 y2
                         have H5 := Lib.hid ((HS.out.next hb7).next (alloc_below w7 (.cells #[.int .i64 0, .int .i64 0, .string ⟨#[]⟩] 25)))
                         obtain ⟨x0, x1, x2⟩ := box3 H5.out.x
                         obtain ⟨y0, y1, y2⟩ := box3 H5.out.y
                         clear hb7))
                    clear R1
                    clear x0 x1 x2 y0 y1 y2
                    have HS := Lib.hid H5.out
                    generalize w7.alloc (.cells #[.int .i64 0, .int .i64 0, .string ⟨#[]⟩] 25) = W5 at HS ⊢
                    as_aux_lemma =>
                      obtain ⟨x0, x1, x2⟩ := box3 HS.out.x
                      obtain ⟨y0, y1, y2⟩ := box3 HS.out.y
                      go_wp2_with (go_at_call 7; refine (AL.out _ (HG.out.below HS.out.bel)).mono ?_; rintro e w9 ⟨rfl, hb⟩
                                   have HE := Lib.hid (HS.out.next hb)
                                   clear hb)
                      go_ret
                      exact ⟨rfl, HE.out.bel⟩
                  · have hok : i64ok (-a) := by have := HA.out; unfold i64ok at this ⊢; omega
                    have hn2 : -a ≠ -9223372036854775808 := by have := HA.out; unfold i64ok at this; omega
                    have R1 := Lib.hid (neg_good k a (-a) (neg_ok HK.out HA.out hmin) HK.out HA.out)
                    have R2 := Lib.hid (neg_good k (-a) a (by rw [neg_ok HK.out hok hn2, Int.neg_neg]) HK.out hok)
                    have m1 : (a == -9223372036854775808) = false := by simpa using hmin
                    have m2 : (a != -9223372036854775808) = true := by simpa using hmin
                    obtain ⟨na, hna⟩ : ∃ na, na = -a := ⟨_, rfl⟩
                    rw [← hna] at R1 R2
                    clear hok hn2 hmin hna
                    have M1 := Lib.hid m1
                    have M2 := Lib.hid m2
                    clear m1 m2
                    go_upto_region 26 with (first
                      | (go_at_call 16; (with_reducible refine (R1.out _).mono ?_); rintro e w7 ⟨rfl, hb7⟩
                         clear x0 x1 x2 y0 y1 y2
                         have H5 := Lib.hid ((HS.out.next hb7).next (alloc_below w7 (.cells #[.int .i64 k, .int .i64 na, .string ⟨#[]⟩] 25)))
                         obtain ⟨x0, x1, x2⟩ := box3 H5.out.x
                         obtain ⟨y0, y1, y2⟩ := box3 H5.out.y
                         obtain ⟨s0, s1, s2⟩ := box3 (heap_alloc_new w7 (.cells #[.int .i64 k, .int .i64 na, .string ⟨#[]⟩] 25))
                         clear hb7)
                      | (go_at_call 16; (with_reducible refine (R2.out _).mono ?_); rintro e w8 ⟨rfl, hb8⟩
                         clear x0 x1 x2 y0 y1 y2
                         have H6 := Lib.hid ((H5.out.next hb8).next (alloc_below w8 (.cells #[.int .i64 k, .int .i64 a, .string ⟨#[]⟩] 25)))
                         obtain ⟨x0, x1, x2⟩ := box3 H6.out.x
                         obtain ⟨y0, y1, y2⟩ := box3 H6.out.y
                         obtain ⟨t0, t1, t2⟩ := box3 (heap_alloc_new w8 (.cells #[.int .i64 k, .int .i64 a, .string ⟨#[]⟩] 25))
                         clear hb8))
                    clear R1 R2 s0 s1 s2 t0 t1 t2
                    clear x0 x1 x2 y0 y1 y2
                    have HS := Lib.hid H6.out
                    generalize w8.alloc (.cells #[.int .i64 k, .int .i64 a, .string ⟨#[]⟩] 25) = W5 at HS ⊢
                    as_aux_lemma =>
                      obtain ⟨x0, x1, x2⟩ := box3 HS.out.x
                      obtain ⟨y0, y1, y2⟩ := box3 HS.out.y
                      have m1 := M1.out
                      have m2 := M2.out
                      go_wp2_with (go_at_call 7; refine (AL.out _ (HG.out.below HS.out.bel)).mono ?_; rintro e w9 ⟨rfl, hb⟩
                                   have HE := Lib.hid (HS.out.next hb)
                                   clear hb)
                      go_ret
                      exact ⟨rfl, HE.out.bel⟩
          · have R1 := Lib.hid (reckon_bad2 h HK.out HK.out HA.out HBB.out)
            clear h
            go_upto_region 16 with (first
              | (go_at_call 15; (with_reducible refine (R1.out _).mono ?_); rintro e w5 ⟨N5, rfl, hb5⟩
                 clear x0 x1 x2 y0 y1 y2
                 have H5 := Lib.hid ((HS.out.next hb5).next (alloc_below w5 (.cells #[.int .i64 0, .int .i64 0, .string ⟨#[]⟩] 25)))
                 obtain ⟨x0, x1, x2⟩ := box3 H5.out.x
                 obtain ⟨y0, y1, y2⟩ := box3 H5.out.y
                 clear hb5))
            clear R1
            clear x0 x1 x2 y0 y1 y2
            have HS := Lib.hid H5.out
            generalize w5.alloc (.cells #[.int .i64 0, .int .i64 0, .string ⟨#[]⟩] 25) = W3 at HS ⊢
            as_aux_lemma =>
              obtain ⟨x0, x1, x2⟩ := box3 HS.out.x
              obtain ⟨y0, y1, y2⟩ := box3 HS.out.y
              rcases back_mul HA.out HBB.out with h | h
              · obtain ⟨h, hs⟩ := h
                obtain ⟨p, hpe⟩ : ∃ p, p = a * b := ⟨_, rfl⟩
                rw [← hpe] at h hs
                have R1 := Lib.hid (reckon_good2 h (.inl rfl) (.inl rfl) HA.out HBB.out)
                clear h
                by_cases hb0 : b = 0
                · clear hs hpe
                  subst hb0
                  go_upto_region 21 with (first
                    | (go_at_call 13; (with_reducible refine (WH.out a _).mono ?_); rintro e w11 ⟨rfl, hb11⟩
                       clear x0 x1 x2 y0 y1 y2
                       have H1 := Lib.hid (HS.out.next hb11)
                       obtain ⟨x0, x1, x2⟩ := box3 H1.out.x
                       obtain ⟨y0, y1, y2⟩ := box3 H1.out.y
                       clear hb11)
                    | (go_at_call 13; (with_reducible refine (WH.out 0 _).mono ?_); rintro e w12 ⟨rfl, hb12⟩
                       clear x0 x1 x2 y0 y1 y2
                       have H2 := Lib.hid (H1.out.next hb12)
                       obtain ⟨x0, x1, x2⟩ := box3 H2.out.x
                       obtain ⟨y0, y1, y2⟩ := box3 H2.out.y
                       clear hb12)
                    | (go_at_call 15; (with_reducible refine (R1.out _).mono ?_); rintro e w13 ⟨rfl, hb13⟩
                       clear x0 x1 x2 y0 y1 y2
                       have H3 := Lib.hid ((H2.out.next hb13).next (alloc_below w13 (.cells #[.int .i64 2, .int .i64 p, .string ⟨#[]⟩] 25)))
                       obtain ⟨x0, x1, x2⟩ := box3 H3.out.x
                       obtain ⟨y0, y1, y2⟩ := box3 H3.out.y
                       obtain ⟨s0, s1, s2⟩ := box3 (heap_alloc_new w13 (.cells #[.int .i64 2, .int .i64 p, .string ⟨#[]⟩] 25))
                       clear hb13))
                  clear R1 s0 s1 s2
                  clear x0 x1 x2 y0 y1 y2
                  have HS := Lib.hid H3.out
                  generalize w13.alloc (.cells #[.int .i64 2, .int .i64 p, .string ⟨#[]⟩] 25) = W4 at HS ⊢
                  as_aux_lemma =>
                    obtain ⟨x0, x1, x2⟩ := box3 HS.out.x
                    obtain ⟨y0, y1, y2⟩ := box3 HS.out.y
                    by_cases hmin : a = -9223372036854775808
                    · subst hmin
                      have R1 := Lib.hid (neg_bad2 k _ _ _ (neg_bad HK.out) HK.out HA.out)
                      go_upto_region 26 with (first
                        | (go_at_call 16; (with_reducible refine (R1.out _).mono ?_); rintro e w7 ⟨N7, rfl, hb7⟩
                           clear x0 x1 x2 y0 y1 y2
                           have H5 := Lib.hid ((HS.out.next hb7).next (alloc_below w7 (.cells #[.int .i64 0, .int .i64 0, .string ⟨#[]⟩] 25)))
                           obtain ⟨x0, x1, x2⟩ := box3 H5.out.x
                           obtain ⟨y0, y1, y2⟩ := box3 H5.out.y
                           clear hb7))
                      clear R1
                      clear x0 x1 x2 y0 y1 y2
                      have HS := Lib.hid H5.out
                      generalize w7.alloc (.cells #[.int .i64 0, .int .i64 0, .string ⟨#[]⟩] 25) = W5 at HS ⊢
                      as_aux_lemma =>
                        obtain ⟨x0, x1, x2⟩ := box3 HS.out.x
                        obtain ⟨y0, y1, y2⟩ := box3 HS.out.y
                        go_wp2_with (go_at_call 7; refine (AL.out _ (HG.out.below HS.out.bel)).mono ?_; rintro e w9 ⟨rfl, hb⟩
                                     have HE := Lib.hid (HS.out.next hb)
                                     clear hb)
                        go_ret
                        exact ⟨rfl, HE.out.bel⟩
                    · have hok : i64ok (-a) := by have := HA.out; unfold i64ok at this ⊢; omega
                      have hn2 : -a ≠ -9223372036854775808 := by have := HA.out; unfold i64ok at this; omega
                      have R1 := Lib.hid (neg_good k a (-a) (neg_ok HK.out HA.out hmin) HK.out HA.out)
                      have R2 := Lib.hid (neg_good k (-a) a (by rw [neg_ok HK.out hok hn2, Int.neg_neg]) HK.out hok)
                      have m1 : (a == -9223372036854775808) = false := by simpa using hmin
                      have m2 : (a != -9223372036854775808) = true := by simpa using hmin
                      obtain ⟨na, hna⟩ : ∃ na, na = -a := ⟨_, rfl⟩
                      rw [← hna] at R1 R2
                      clear hok hn2 hmin hna
                      have M1 := Lib.hid m1
                      have M2 := Lib.hid m2
                      clear m1 m2
                      go_upto_region 26 with (first
                        | (go_at_call 16; (with_reducible refine (R1.out _).mono ?_); rintro e w7 ⟨rfl, hb7⟩
                           clear x0 x1 x2 y0 y1 y2
                           have H5 := Lib.hid ((HS.out.next hb7).next (alloc_below w7 (.cells #[.int .i64 k, .int .i64 na, .string ⟨#[]⟩] 25)))
                           obtain ⟨x0, x1, x2⟩ := box3 H5.out.x
                           obtain ⟨y0, y1, y2⟩ := box3 H5.out.y
                           obtain ⟨s0, s1, s2⟩ := box3 (heap_alloc_new w7 (.cells #[.int .i64 k, .int .i64 na, .string ⟨#[]⟩] 25))
                           clear hb7)
                        | (go_at_call 16; (with_reducible refine (R2.out _).mono ?_); rintro e w8 ⟨rfl, hb8⟩
                           clear x0 x1 x2 y0 y1 y2
                           have H6 := Lib.hid ((H5.out.next hb8).next (alloc_below w8 (.cells #[.int .i64 k, .int .i64 a, .string ⟨#[]⟩] 25)))
                           obtain ⟨x0, x1, x2⟩ := box3 H6.out.x
                           obtain ⟨y0, y1, y2⟩ := box3 H6.out.y
                           obtain ⟨t0, t1, t2⟩ := box3 (heap_alloc_new w8 (.cells #[.int .i64 k, .int .i64 a, .string ⟨#[]⟩] 25))
                           clear hb8))
                      clear R1 R2 s0 s1 s2 t0 t1 t2
                      clear x0 x1 x2 y0 y1 y2
                      have HS := Lib.hid H6.out
                      generalize w8.alloc (.cells #[.int .i64 k, .int .i64 a, .string ⟨#[]⟩] 25) = W5 at HS ⊢
                      as_aux_lemma =>
                        obtain ⟨x0, x1, x2⟩ := box3 HS.out.x
                        obtain ⟨y0, y1, y2⟩ := box3 HS.out.y
                        have m1 := M1.out
                        have m2 := M2.out
                        go_wp2_with (go_at_call 7; refine (AL.out _ (HG.out.below HS.out.bel)).mono ?_; rintro e w9 ⟨rfl, hb⟩
                                     have HE := Lib.hid (HS.out.next hb)
                                     clear hb)
                        go_ret
                        exact ⟨rfl, HE.out.bel⟩
                · have R2 := Lib.hid (reckon_good2 (op := 6) (n := p) (by rw [hpe]; exact div_back HA.out HBB.out (by rw [← hpe]; exact hs) hb0) (.inl rfl) (.inl rfl) hs HBB.out)
                  have nb1 : (b == 0) = false := by simpa using hb0
                  have nb2 : (b != 0) = true := by simpa using hb0
                  have f1 := eqB_one 2 a
                  clear hb0 hs hpe
                  go_upto_region 18 with (first
                    | (go_at_call 13; (with_reducible refine (WH.out a _).mono ?_); rintro e w11 ⟨rfl, hb11⟩
                       clear x0 x1 x2 y0 y1 y2
                       have H1 := Lib.hid (HS.out.next hb11)
                       obtain ⟨x0, x1, x2⟩ := box3 H1.out.x
                       obtain ⟨y0, y1, y2⟩ := box3 H1.out.y
                       clear hb11)
                    | (go_at_call 13; (with_reducible refine (WH.out b _).mono ?_); rintro e w12 ⟨rfl, hb12⟩
                       clear x0 x1 x2 y0 y1 y2
                       have H2 := Lib.hid (H1.out.next hb12)
                       obtain ⟨x0, x1, x2⟩ := box3 H2.out.x
                       obtain ⟨y0, y1, y2⟩ := box3 H2.out.y
                       clear hb12)
                    | (go_at_call 15; (with_reducible refine (R1.out _).mono ?_); rintro e w13 ⟨rfl, hb13⟩
                       clear x0 x1 x2 y0 y1 y2
                       have H3 := Lib.hid ((H2.out.next hb13).next (alloc_below w13 (.cells #[.int .i64 2, .int .i64 p, .string ⟨#[]⟩] 25)))
                       obtain ⟨x0, x1, x2⟩ := box3 H3.out.x
                       obtain ⟨y0, y1, y2⟩ := box3 H3.out.y
                       obtain ⟨s0, s1, s2⟩ := box3 (heap_alloc_new w13 (.cells #[.int .i64 2, .int .i64 p, .string ⟨#[]⟩] 25))
                       clear hb13))
                  obtain ⟨W6, hW6⟩ : ∃ W6, W6 = w13.alloc (.cells #[.int .i64 2, .int .i64 p, .string ⟨#[]⟩] 25) := ⟨_, rfl⟩
                  obtain ⟨g6, hg6⟩ : ∃ g6, g6 = w13.heap.size := ⟨_, rfl⟩
                  have HP6 : Hid (W6.heap[g6]? = some (.cells #[.int .i64 2, .int .i64 p, .string ⟨#[]⟩] 25 (0, 0))) := Lib.hid (by rw [hW6, hg6]; exact heap_alloc_new w13 _)
                  rw [← hW6] at H3 ⊢
                  rw [← hg6]
                  clear hW6 hg6 s0 s1 s2 x0 x1 x2 y0 y1 y2 R1
                  have HQ6 : Hid (∀ W, Below W6.heap.size W6 W → (W.cell? ⟨g6, 0, none⟩ = some (.int .i64 2) ∧ W.cell? ⟨g6, 1, none⟩ = some (.int .i64 p) ∧ W.cell? ⟨g6, 2, none⟩ = some (.string ⟨#[]⟩))) := Lib.hid fun W h => box3 ((h.block g6 (Array.getElem?_eq_some_iff.1 HP6.out).1).trans HP6.out)
                  go_cut [17, 18] (fun v17 v18 wx => BkD W6 a v17 v18 wx)
                  case first =>
                    go_region_held3 (fun W => (W.cell? ⟨g6, 0, none⟩ = some (.int .i64 2) ∧ W.cell? ⟨g6, 1, none⟩ = some (.int .i64 p) ∧ W.cell? ⟨g6, 2, none⟩ = some (.string ⟨#[]⟩)))
                      (first
                        | exact HQ6.out _ HC15.out
                        | exact HQ6.out _ (HC15.out.trans ((alloc_below _ _).mono HC15.out.size))
                        | exact HQ6.out _ (set3_below0 HC15.out (by first | exact HC1.out.size | exact Nat.le_refl _) _ _ _)
                        | exact HQ6.out _ HC1.out
                        | exact HQ6.out _ (HC1.out.trans ((alloc_below _ _).mono HC1.out.size))
                        | exact HQ6.out _ (drew_below _)
                        | exact HQ6.out _ ((drew_below _).trans ((alloc_below _ _).mono (Nat.le_refl _))))
                      (first
                      | (go_at_call 13; refine (WH.out b _).mono ?_; rintro e w14 ⟨rfl, hb14⟩
                         have HC1 : Hid (Below W6.heap.size W6 w14) := Lib.hid (by first | exact (drew_below W6).trans hb14 | exact ((drew_below W6).trans ((alloc_below _ _).mono (Nat.le_refl _))).trans (hb14.mono (by simp)))
                         (first
                           | (have hx := (hb14.block W6.heap.size (by simp)).trans (heap_alloc_new W6.drew (.cells #[.int .i64 0, .int .i64 0, .string ⟨#[]⟩] 25))
                              have HZ := Lib.hid hx
                              clear hx)
                           | skip)
                         clear hb14)
                      | (go_at_call 15; refine (R2.out _).mono ?_; rintro e w15 ⟨rfl, hb15⟩
                         have HC15 : Hid (Below W6.heap.size W6 w15) := Lib.hid (by first | exact HC1.out.trans (hb15.mono HC1.out.size) | exact (HC1.out.trans ((alloc_below w14 _).mono HC1.out.size)).trans (hb15.mono (by have := HC1.out.size; simp; omega)))
                         (first
                           | (have hx := (hb15.block w14.heap.size (by simp)).trans (heap_alloc_new w14 (.cells #[.int .i64 0, .int .i64 0, .string ⟨#[]⟩] 25))
                              have HZ := Lib.hid hx
                              obtain ⟨r0, r1, r2⟩ := box3 hx
                              have z0 := frozen3 hx 0
                              have z1 := frozen3 hx 1
                              have z2 := frozen3 hx 2
                              clear hx)
                           | (have hx := (hb15.block W6.heap.size (by have := HC1.out.size; have := (Array.getElem?_eq_some_iff.1 HZ.out).1; omega)).trans HZ.out
                              have HZ := Lib.hid hx
                              obtain ⟨r0, r1, r2⟩ := box3 hx
                              have z0 := frozen3 hx 0
                              have z1 := frozen3 hx 1
                              have z2 := frozen3 hx 2
                              clear hx)
                           | skip)
                         clear hb15)
                      | fail)
                    all_goals
                      go_wp2_with fail
                      go_meet
                      first
                        | exact ⟨_, rfl, rfl, heap_alloc_new w15 _, HC15.out.trans ((alloc_below w15 _).mono HC15.out.size)⟩
                        | exact ⟨_, rfl, rfl, heap_set3 HZ.out, set3_below0 HC15.out HC1.out.size _ _ _⟩
                        | exact ⟨_, rfl, rfl, heap_set3 HZ.out, set3_below0 HC15.out (Nat.le_refl _) _ _ _⟩
                  case rest =>
                    obtain ⟨W7, hW7, hcut7⟩ := BkD.world hcut
                    subst hW7
                    obtain ⟨g7, rfl, rfl, hp7, hb7⟩ := hcut7
                    have HS7 := Lib.hid (H3.out.next hb7)
                    have HP7 := Lib.hid hp7
                    clear hp7 hb7 hcut HQ6 H3 HP6 R2
                    have HQ7 : Hid (∀ W, Below W7.heap.size W7 W → (W.cell? ⟨g7, 0, none⟩ = some (.int .i64 2) ∧ W.cell? ⟨g7, 1, none⟩ = some (.int .i64 a) ∧ W.cell? ⟨g7, 2, none⟩ = some (.string ⟨#[]⟩))) := Lib.hid fun W h => box3 ((h.block g7 (Array.getElem?_eq_some_iff.1 HP7.out).1).trans HP7.out)
                    go_upto_region 19 with fail
                    go_region_held3 (fun W => (W.cell? ⟨g7, 0, none⟩ = some (.int .i64 2) ∧ W.cell? ⟨g7, 1, none⟩ = some (.int .i64 a) ∧ W.cell? ⟨g7, 2, none⟩ = some (.string ⟨#[]⟩)))
                      (first
                        | exact HQ7.out _ HC8.out
                        | exact HQ7.out _ (drew_below _))
                      (first
                      | (go_at_call 13; refine (WH.out a _).mono ?_; rintro e w16 ⟨rfl, hb16⟩
                         have HC8 := Lib.hid ((drew_below W7).trans hb16)
                         clear hb16)
                      | fail)
                    have HS := Lib.hid (HS7.out.next HC8.out)
                    clear HS7 HC8 HQ7 HP7 nb1 nb2
                    go_upto_region 21 with fail
                    as_aux_lemma =>
                      obtain ⟨x0, x1, x2⟩ := box3 HS.out.x
                      obtain ⟨y0, y1, y2⟩ := box3 HS.out.y
                      by_cases hmin : a = -9223372036854775808
                      · subst hmin
                        have R1 := Lib.hid (neg_bad2 k _ _ _ (neg_bad HK.out) HK.out HA.out)
                        go_upto_region 26 with (first
                          | (go_at_call 16; (with_reducible refine (R1.out _).mono ?_); rintro e w7 ⟨N7, rfl, hb7⟩
                             clear x0 x1 x2 y0 y1 y2
                             have H5 := Lib.hid ((HS.out.next hb7).next (alloc_below w7 (.cells #[.int .i64 0, .int .i64 0, .string ⟨#[]⟩] 25)))
                             obtain ⟨x0, x1, x2⟩ := box3 H5.out.x
                             obtain ⟨y0, y1, y2⟩ := box3 H5.out.y
                             clear hb7))
                        clear R1
                        clear x0 x1 x2 y0 y1 y2
                        have HS := Lib.hid H5.out
                        generalize w7.alloc (.cells #[.int .i64 0, .int .i64 0, .string ⟨#[]⟩] 25) = W5 at HS ⊢
                        as_aux_lemma =>
                          obtain ⟨x0, x1, x2⟩ := box3 HS.out.x
                          obtain ⟨y0, y1, y2⟩ := box3 HS.out.y
                          go_wp2_with (go_at_call 7; refine (AL.out _ (HG.out.below HS.out.bel)).mono ?_; rintro e w9 ⟨rfl, hb⟩
                                       have HE := Lib.hid (HS.out.next hb)
                                       clear hb)
                          go_ret
                          exact ⟨rfl, HE.out.bel⟩
                      · have hok : i64ok (-a) := by have := HA.out; unfold i64ok at this ⊢; omega
                        have hn2 : -a ≠ -9223372036854775808 := by have := HA.out; unfold i64ok at this; omega
                        have R1 := Lib.hid (neg_good k a (-a) (neg_ok HK.out HA.out hmin) HK.out HA.out)
                        have R2 := Lib.hid (neg_good k (-a) a (by rw [neg_ok HK.out hok hn2, Int.neg_neg]) HK.out hok)
                        have m1 : (a == -9223372036854775808) = false := by simpa using hmin
                        have m2 : (a != -9223372036854775808) = true := by simpa using hmin
                        obtain ⟨na, hna⟩ : ∃ na, na = -a := ⟨_, rfl⟩
                        rw [← hna] at R1 R2
                        clear hok hn2 hmin hna
                        have M1 := Lib.hid m1
                        have M2 := Lib.hid m2
                        clear m1 m2
                        go_upto_region 26 with (first
                          | (go_at_call 16; (with_reducible refine (R1.out _).mono ?_); rintro e w7 ⟨rfl, hb7⟩
                             clear x0 x1 x2 y0 y1 y2
                             have H5 := Lib.hid ((HS.out.next hb7).next (alloc_below w7 (.cells #[.int .i64 k, .int .i64 na, .string ⟨#[]⟩] 25)))
                             obtain ⟨x0, x1, x2⟩ := box3 H5.out.x
                             obtain ⟨y0, y1, y2⟩ := box3 H5.out.y
                             obtain ⟨s0, s1, s2⟩ := box3 (heap_alloc_new w7 (.cells #[.int .i64 k, .int .i64 na, .string ⟨#[]⟩] 25))
                             clear hb7)
                          | (go_at_call 16; (with_reducible refine (R2.out _).mono ?_); rintro e w8 ⟨rfl, hb8⟩
                             clear x0 x1 x2 y0 y1 y2
                             have H6 := Lib.hid ((H5.out.next hb8).next (alloc_below w8 (.cells #[.int .i64 k, .int .i64 a, .string ⟨#[]⟩] 25)))
                             obtain ⟨x0, x1, x2⟩ := box3 H6.out.x
                             obtain ⟨y0, y1, y2⟩ := box3 H6.out.y
                             obtain ⟨t0, t1, t2⟩ := box3 (heap_alloc_new w8 (.cells #[.int .i64 k, .int .i64 a, .string ⟨#[]⟩] 25))
                             clear hb8))
                        clear R1 R2 s0 s1 s2 t0 t1 t2
                        clear x0 x1 x2 y0 y1 y2
                        have HS := Lib.hid H6.out
                        generalize w8.alloc (.cells #[.int .i64 k, .int .i64 a, .string ⟨#[]⟩] 25) = W5 at HS ⊢
                        as_aux_lemma =>
                          obtain ⟨x0, x1, x2⟩ := box3 HS.out.x
                          obtain ⟨y0, y1, y2⟩ := box3 HS.out.y
                          have m1 := M1.out
                          have m2 := M2.out
                          go_wp2_with (go_at_call 7; refine (AL.out _ (HG.out.below HS.out.bel)).mono ?_; rintro e w9 ⟨rfl, hb⟩
                                       have HE := Lib.hid (HS.out.next hb)
                                       clear hb)
                          go_ret
                          exact ⟨rfl, HE.out.bel⟩
              · have R1 := Lib.hid (reckon_bad2 h (.inl rfl) (.inl rfl) HA.out HBB.out)
                clear h
                go_upto_region 21 with (first
                  | (go_at_call 13; (with_reducible refine (WH.out a _).mono ?_); rintro e w11 ⟨rfl, hb11⟩
                     clear x0 x1 x2 y0 y1 y2
                     have H1 := Lib.hid (HS.out.next hb11)
                     obtain ⟨x0, x1, x2⟩ := box3 H1.out.x
                     obtain ⟨y0, y1, y2⟩ := box3 H1.out.y
                     clear hb11)
                  | (go_at_call 13; (with_reducible refine (WH.out b _).mono ?_); rintro e w12 ⟨rfl, hb12⟩
                     clear x0 x1 x2 y0 y1 y2
                     have H2 := Lib.hid (H1.out.next hb12)
                     obtain ⟨x0, x1, x2⟩ := box3 H2.out.x
                     obtain ⟨y0, y1, y2⟩ := box3 H2.out.y
                     clear hb12)
                  | (go_at_call 15; (with_reducible refine (R1.out _).mono ?_); rintro e w13 ⟨N13, rfl, hb13⟩
                     clear x0 x1 x2 y0 y1 y2
                     have H3 := Lib.hid ((H2.out.next hb13).next (alloc_below w13 (.cells #[.int .i64 0, .int .i64 0, .string ⟨#[]⟩] 25)))
                     obtain ⟨x0, x1, x2⟩ := box3 H3.out.x
                     obtain ⟨y0, y1, y2⟩ := box3 H3.out.y
                     clear hb13))
                clear R1
                clear x0 x1 x2 y0 y1 y2
                have HS := Lib.hid H3.out
                generalize w13.alloc (.cells #[.int .i64 0, .int .i64 0, .string ⟨#[]⟩] 25) = W4 at HS ⊢
                as_aux_lemma =>
                  obtain ⟨x0, x1, x2⟩ := box3 HS.out.x
                  obtain ⟨y0, y1, y2⟩ := box3 HS.out.y
                  by_cases hmin : a = -9223372036854775808
                  · subst hmin
                    have R1 := Lib.hid (neg_bad2 k _ _ _ (neg_bad HK.out) HK.out HA.out)
                    go_upto_region 26 with (first
                      | (go_at_call 16; (with_reducible refine (R1.out _).mono ?_); rintro e w7 ⟨N7, rfl, hb7⟩
                         clear x0 x1 x2 y0 y1 y2
                         have H5 := Lib.hid ((HS.out.next hb7).next (alloc_below w7 (.cells #[.int .i64 0, .int .i64 0, .string ⟨#[]⟩] 25)))
                         obtain ⟨x0, x1, x2⟩ := box3 H5.out.x
                         obtain ⟨y0, y1, y2⟩ := box3 H5.out.y
                         clear hb7))
                    clear R1
                    clear x0 x1 x2 y0 y1 y2
                    have HS := Lib.hid H5.out
                    generalize w7.alloc (.cells #[.int .i64 0, .int .i64 0, .string ⟨#[]⟩] 25) = W5 at HS ⊢
                    as_aux_lemma =>
                      obtain ⟨x0, x1, x2⟩ := box3 HS.out.x
                      obtain ⟨y0, y1, y2⟩ := box3 HS.out.y
                      go_wp2_with (go_at_call 7; refine (AL.out _ (HG.out.below HS.out.bel)).mono ?_; rintro e w9 ⟨rfl, hb⟩
                                   have HE := Lib.hid (HS.out.next hb)
                                   clear hb)
                      go_ret
                      exact ⟨rfl, HE.out.bel⟩
                  · have hok : i64ok (-a) := by have := HA.out; unfold i64ok at this ⊢; omega
                    have hn2 : -a ≠ -9223372036854775808 := by have := HA.out; unfold i64ok at this; omega
                    have R1 := Lib.hid (neg_good k a (-a) (neg_ok HK.out HA.out hmin) HK.out HA.out)
                    have R2 := Lib.hid (neg_good k (-a) a (by rw [neg_ok HK.out hok hn2, Int.neg_neg]) HK.out hok)
                    have m1 : (a == -9223372036854775808) = false := by simpa using hmin
                    have m2 : (a != -9223372036854775808) = true := by simpa using hmin
                    obtain ⟨na, hna⟩ : ∃ na, na = -a := ⟨_, rfl⟩
                    rw [← hna] at R1 R2
                    clear hok hn2 hmin hna
                    have M1 := Lib.hid m1
                    have M2 := Lib.hid m2
                    clear m1 m2
                    go_upto_region 26 with (first
                      | (go_at_call 16; (with_reducible refine (R1.out _).mono ?_); rintro e w7 ⟨rfl, hb7⟩
                         clear x0 x1 x2 y0 y1 y2
                         have H5 := Lib.hid ((HS.out.next hb7).next (alloc_below w7 (.cells #[.int .i64 k, .int .i64 na, .string ⟨#[]⟩] 25)))
                         obtain ⟨x0, x1, x2⟩ := box3 H5.out.x
                         obtain ⟨y0, y1, y2⟩ := box3 H5.out.y
                         obtain ⟨s0, s1, s2⟩ := box3 (heap_alloc_new w7 (.cells #[.int .i64 k, .int .i64 na, .string ⟨#[]⟩] 25))
                         clear hb7)
                      | (go_at_call 16; (with_reducible refine (R2.out _).mono ?_); rintro e w8 ⟨rfl, hb8⟩
                         clear x0 x1 x2 y0 y1 y2
                         have H6 := Lib.hid ((H5.out.next hb8).next (alloc_below w8 (.cells #[.int .i64 k, .int .i64 a, .string ⟨#[]⟩] 25)))
                         obtain ⟨x0, x1, x2⟩ := box3 H6.out.x
                         obtain ⟨y0, y1, y2⟩ := box3 H6.out.y
                         obtain ⟨t0, t1, t2⟩ := box3 (heap_alloc_new w8 (.cells #[.int .i64 k, .int .i64 a, .string ⟨#[]⟩] 25))
                         clear hb8))
                    clear R1 R2 s0 s1 s2 t0 t1 t2
                    clear x0 x1 x2 y0 y1 y2
                    have HS := Lib.hid H6.out
                    generalize w8.alloc (.cells #[.int .i64 k, .int .i64 a, .string ⟨#[]⟩] 25) = W5 at HS ⊢
                    as_aux_lemma =>
                      obtain ⟨x0, x1, x2⟩ := box3 HS.out.x
                      obtain ⟨y0, y1, y2⟩ := box3 HS.out.y
                      have m1 := M1.out
                      have m2 := M2.out
                      go_wp2_with (go_at_call 7; refine (AL.out _ (HG.out.below HS.out.bel)).mono ?_; rintro e w9 ⟨rfl, hb⟩
                                   have HE := Lib.hid (HS.out.next hb)
                                   clear hb)
                      go_ret
                      exact ⟨rfl, HE.out.bel⟩
#print axioms back_law
end Go.Proofs.YtcegdjaepldndaaDoor
