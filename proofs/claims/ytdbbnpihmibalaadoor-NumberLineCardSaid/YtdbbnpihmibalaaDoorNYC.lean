/- NumberLine: the law's own body, where the sign is 1. -/
import Derived.Test.YtdbbnpihmibalaaDoorNYW
namespace Go.Proofs.YtdbbnpihmibalaaDoor
open Go.RowKit

set_option maxRecDepth 100000 in
set_option maxHeartbeats 20000000 in
theorem line_pos (d0 d1 d2 : Bool) (n0 n1 n2 : Int) (w : World) (hxv : signN (kd d0) n0 (kd d1) n1 = 1) (h0 : i64ok n0) (h1 : i64ok n1) (h2 : i64ok n2) (hg : Handle w) : Calls Tryd.prog 5 #[.agg #[.int .i64 n0, .int .i64 n1, .int .i64 n2], .agg #[.bool d0, .bool d1, .bool d2]] w (Ans (.bool true) w) := by
  have WH := Lib.hid whole_any
  have DC := Lib.hid dec_any
  have AL := Lib.hid aliveN_any
  have HG := Lib.hid hg
  have HN := Lib.hid (And.intro h0 (And.intro h1 h2))
  have HST := Lib.hid (ln_start w d0 d1 d2 n0 n1 n2)
  clear h0 h1 h2 hg
  go_enter Tryd.func5, Tryd.ntmps5
  go_wp2_with fail
  go_loopw [6] (fun v6 wr => LnL w d0 d1 d2 n0 n1 n2 v6 wr) (fun v6 _ => 3 - (intOf v6).toNat)
  case atStart => exact HST.out
  case round =>
    obtain ⟨i, rfl, hi, hs⟩ := hrel
    clear HST
    by_cases hlt : i < 3
    · obtain rfl | rfl | rfl : i = 0 ∨ i = 1 ∨ i = 2 := by omega
      · have HS := Lib.hid hs
        clear hs hi
        obtain ⟨n0x, n1x, n2x⟩ := box3 HS.out.n
        obtain ⟨d0x, d1x, d2x⟩ := box3 HS.out.d
        have v0x := HS.out.cell 0 _ rfl
        have z0x := HS.out.fz 0
        have v1x := HS.out.cell 1 _ rfl
        have z1x := HS.out.fz 1
        have v2x := HS.out.cell 2 _ rfl
        have z2x := HS.out.fz 2
        go_upto_region 6 with (go_at_call 13; refine (WH.out n0 _).mono ?_; rintro e w1 ⟨rfl, hb⟩
                               have H1 := Lib.hid (HS.out.next hb)
                               clear n0x n1x n2x d0x d1x d2x v0x v1x v2x z0x z1x z2x
                               obtain ⟨n0x, n1x, n2x⟩ := box3 H1.out.n
                               obtain ⟨d0x, d1x, d2x⟩ := box3 H1.out.d
                               have v0x := H1.out.cell 0 _ rfl
                               have z0x := H1.out.fz 0
                               have v1x := H1.out.cell 1 _ rfl
                               have z1x := H1.out.fz 1
                               have v2x := H1.out.cell 2 _ rfl
                               have z2x := H1.out.fz 2
                               clear hb)
        clear n0x n1x n2x d0x d1x d2x v0x v1x v2x z0x z1x z2x
        have H2 := Lib.hid (H1.out.put 0 (.int .i64 2) (.int .i64 n0) (.string ⟨#[]⟩))
        obtain ⟨W2, hW2⟩ : ∃ W2, W2 = ((w1.setCell ⟨w.heap.size + 1 + 1, 0, none⟩ (.int .i64 2)).setCell ⟨w.heap.size + 1 + 1, 1, none⟩ (.int .i64 n0)).setCell ⟨w.heap.size + 1 + 1, 2, none⟩ (.string ⟨#[]⟩) := ⟨_, rfl⟩
        have HW2 := Lib.hid hW2
        rw [← hW2]
        clear hW2
        have H2 : Hid (LnS w w.heap.size (w.heap.size + 1) (w.heap.size + 1 + 1) d0 d1 d2 n0 n1 n2 _ W2) := Lib.hid (by rw [HW2.out]; exact H2.out)
        clear HW2 H1
        obtain ⟨n0x, n1x, n2x⟩ := box3 H2.out.n
        obtain ⟨d0x, d1x, d2x⟩ := box3 H2.out.d
        have v0x := H2.out.cell 0 _ rfl
        have z0x := H2.out.fz 0
        have v1x := H2.out.cell 1 _ rfl
        have z1x := H2.out.fz 1
        have v2x := H2.out.cell 2 _ rfl
        have z2x := H2.out.fz 2
        cases d0 with
        | false =>
          have HY : Hid (∀ v6, v6 = .int .i64 ((1 : Nat) : Int) → LnL w false d1 d2 n0 n1 n2 v6 W2) := Lib.hid fun v6 h6 => ⟨1, h6, by omega, H2.out⟩
          go_wp2_with fail
          go_roundw
          case rel => first | exact HY.out _ (by go_num) | ((repeat apply Exists.intro); exact ⟨HY.out _ (by go_num), rfl⟩)
          case measure => simp [intOf]
        | true =>
          go_wp2_with (go_at_call 14; refine (DC.out n0 _).mono ?_; rintro e w3 ⟨rfl, hb⟩
                       have H3 := Lib.hid (H2.out.next hb)
                       clear n0x n1x n2x d0x d1x d2x v0x v1x v2x z0x z1x z2x
                       obtain ⟨n0x, n1x, n2x⟩ := box3 H3.out.n
                       obtain ⟨d0x, d1x, d2x⟩ := box3 H3.out.d
                       have v0x := H3.out.cell 0 _ rfl
                       have z0x := H3.out.fz 0
                       have v1x := H3.out.cell 1 _ rfl
                       have z1x := H3.out.fz 1
                       have v2x := H3.out.cell 2 _ rfl
                       have z2x := H3.out.fz 2
                       have HY : Hid (∀ v6, v6 = .int .i64 ((1 : Nat) : Int) → LnL w true d1 d2 n0 n1 n2 v6 (((w3.setCell ⟨w.heap.size + 1 + 1, 0, none⟩ (.int .i64 3)).setCell ⟨w.heap.size + 1 + 1, 1, none⟩ (.int .i64 n0)).setCell ⟨w.heap.size + 1 + 1, 2, none⟩ (.string ⟨#[]⟩))) := Lib.hid fun v6 h6 => ⟨1, h6, by omega, H3.out.put 0 (.int .i64 3) (.int .i64 n0) (.string ⟨#[]⟩)⟩
                       clear hb)
          go_roundw
          case rel => first | exact HY.out _ (by go_num) | ((repeat apply Exists.intro); exact ⟨HY.out _ (by go_num), rfl⟩)
          case measure => simp [intOf]
      · have HS := Lib.hid hs
        clear hs hi
        obtain ⟨n0x, n1x, n2x⟩ := box3 HS.out.n
        obtain ⟨d0x, d1x, d2x⟩ := box3 HS.out.d
        have v0x := HS.out.cell 3 _ rfl
        have z0x := HS.out.fz 3
        have v1x := HS.out.cell 4 _ rfl
        have z1x := HS.out.fz 4
        have v2x := HS.out.cell 5 _ rfl
        have z2x := HS.out.fz 5
        go_upto_region 6 with (go_at_call 13; refine (WH.out n1 _).mono ?_; rintro e w1 ⟨rfl, hb⟩
                               have H1 := Lib.hid (HS.out.next hb)
                               clear n0x n1x n2x d0x d1x d2x v0x v1x v2x z0x z1x z2x
                               obtain ⟨n0x, n1x, n2x⟩ := box3 H1.out.n
                               obtain ⟨d0x, d1x, d2x⟩ := box3 H1.out.d
                               have v0x := H1.out.cell 3 _ rfl
                               have z0x := H1.out.fz 3
                               have v1x := H1.out.cell 4 _ rfl
                               have z1x := H1.out.fz 4
                               have v2x := H1.out.cell 5 _ rfl
                               have z2x := H1.out.fz 5
                               clear hb)
        clear n0x n1x n2x d0x d1x d2x v0x v1x v2x z0x z1x z2x
        have H2 := Lib.hid (H1.out.put 3 (.int .i64 2) (.int .i64 n1) (.string ⟨#[]⟩))
        obtain ⟨W2, hW2⟩ : ∃ W2, W2 = ((w1.setCell ⟨w.heap.size + 1 + 1, 3, none⟩ (.int .i64 2)).setCell ⟨w.heap.size + 1 + 1, 4, none⟩ (.int .i64 n1)).setCell ⟨w.heap.size + 1 + 1, 5, none⟩ (.string ⟨#[]⟩) := ⟨_, rfl⟩
        have HW2 := Lib.hid hW2
        rw [← hW2]
        clear hW2
        have H2 : Hid (LnS w w.heap.size (w.heap.size + 1) (w.heap.size + 1 + 1) d0 d1 d2 n0 n1 n2 _ W2) := Lib.hid (by rw [HW2.out]; exact H2.out)
        clear HW2 H1
        obtain ⟨n0x, n1x, n2x⟩ := box3 H2.out.n
        obtain ⟨d0x, d1x, d2x⟩ := box3 H2.out.d
        have v0x := H2.out.cell 3 _ rfl
        have z0x := H2.out.fz 3
        have v1x := H2.out.cell 4 _ rfl
        have z1x := H2.out.fz 4
        have v2x := H2.out.cell 5 _ rfl
        have z2x := H2.out.fz 5
        cases d1 with
        | false =>
          have HY : Hid (∀ v6, v6 = .int .i64 ((2 : Nat) : Int) → LnL w d0 false d2 n0 n1 n2 v6 W2) := Lib.hid fun v6 h6 => ⟨2, h6, by omega, H2.out⟩
          go_wp2_with fail
          go_roundw
          case rel => first | exact HY.out _ (by go_num) | ((repeat apply Exists.intro); exact ⟨HY.out _ (by go_num), rfl⟩)
          case measure => simp [intOf]
        | true =>
          go_wp2_with (go_at_call 14; refine (DC.out n1 _).mono ?_; rintro e w3 ⟨rfl, hb⟩
                       have H3 := Lib.hid (H2.out.next hb)
                       clear n0x n1x n2x d0x d1x d2x v0x v1x v2x z0x z1x z2x
                       obtain ⟨n0x, n1x, n2x⟩ := box3 H3.out.n
                       obtain ⟨d0x, d1x, d2x⟩ := box3 H3.out.d
                       have v0x := H3.out.cell 3 _ rfl
                       have z0x := H3.out.fz 3
                       have v1x := H3.out.cell 4 _ rfl
                       have z1x := H3.out.fz 4
                       have v2x := H3.out.cell 5 _ rfl
                       have z2x := H3.out.fz 5
                       have HY : Hid (∀ v6, v6 = .int .i64 ((2 : Nat) : Int) → LnL w d0 true d2 n0 n1 n2 v6 (((w3.setCell ⟨w.heap.size + 1 + 1, 3, none⟩ (.int .i64 3)).setCell ⟨w.heap.size + 1 + 1, 4, none⟩ (.int .i64 n1)).setCell ⟨w.heap.size + 1 + 1, 5, none⟩ (.string ⟨#[]⟩))) := Lib.hid fun v6 h6 => ⟨2, h6, by omega, H3.out.put 3 (.int .i64 3) (.int .i64 n1) (.string ⟨#[]⟩)⟩
                       clear hb)
          go_roundw
          case rel => first | exact HY.out _ (by go_num) | ((repeat apply Exists.intro); exact ⟨HY.out _ (by go_num), rfl⟩)
          case measure => simp [intOf]
      · have HS := Lib.hid hs
        clear hs hi
        obtain ⟨n0x, n1x, n2x⟩ := box3 HS.out.n
        obtain ⟨d0x, d1x, d2x⟩ := box3 HS.out.d
        have v0x := HS.out.cell 6 _ rfl
        have z0x := HS.out.fz 6
        have v1x := HS.out.cell 7 _ rfl
        have z1x := HS.out.fz 7
        have v2x := HS.out.cell 8 _ rfl
        have z2x := HS.out.fz 8
        go_upto_region 6 with (go_at_call 13; refine (WH.out n2 _).mono ?_; rintro e w1 ⟨rfl, hb⟩
                               have H1 := Lib.hid (HS.out.next hb)
                               clear n0x n1x n2x d0x d1x d2x v0x v1x v2x z0x z1x z2x
                               obtain ⟨n0x, n1x, n2x⟩ := box3 H1.out.n
                               obtain ⟨d0x, d1x, d2x⟩ := box3 H1.out.d
                               have v0x := H1.out.cell 6 _ rfl
                               have z0x := H1.out.fz 6
                               have v1x := H1.out.cell 7 _ rfl
                               have z1x := H1.out.fz 7
                               have v2x := H1.out.cell 8 _ rfl
                               have z2x := H1.out.fz 8
                               clear hb)
        clear n0x n1x n2x d0x d1x d2x v0x v1x v2x z0x z1x z2x
        have H2 := Lib.hid (H1.out.put 6 (.int .i64 2) (.int .i64 n2) (.string ⟨#[]⟩))
        obtain ⟨W2, hW2⟩ : ∃ W2, W2 = ((w1.setCell ⟨w.heap.size + 1 + 1, 6, none⟩ (.int .i64 2)).setCell ⟨w.heap.size + 1 + 1, 7, none⟩ (.int .i64 n2)).setCell ⟨w.heap.size + 1 + 1, 8, none⟩ (.string ⟨#[]⟩) := ⟨_, rfl⟩
        have HW2 := Lib.hid hW2
        rw [← hW2]
        clear hW2
        have H2 : Hid (LnS w w.heap.size (w.heap.size + 1) (w.heap.size + 1 + 1) d0 d1 d2 n0 n1 n2 _ W2) := Lib.hid (by rw [HW2.out]; exact H2.out)
        clear HW2 H1
        obtain ⟨n0x, n1x, n2x⟩ := box3 H2.out.n
        obtain ⟨d0x, d1x, d2x⟩ := box3 H2.out.d
        have v0x := H2.out.cell 6 _ rfl
        have z0x := H2.out.fz 6
        have v1x := H2.out.cell 7 _ rfl
        have z1x := H2.out.fz 7
        have v2x := H2.out.cell 8 _ rfl
        have z2x := H2.out.fz 8
        cases d2 with
        | false =>
          have HY : Hid (∀ v6, v6 = .int .i64 ((3 : Nat) : Int) → LnL w d0 d1 false n0 n1 n2 v6 W2) := Lib.hid fun v6 h6 => ⟨3, h6, by omega, H2.out⟩
          go_wp2_with fail
          go_roundw
          case rel => first | exact HY.out _ (by go_num) | ((repeat apply Exists.intro); exact ⟨HY.out _ (by go_num), rfl⟩)
          case measure => simp [intOf]
        | true =>
          go_wp2_with (go_at_call 14; refine (DC.out n2 _).mono ?_; rintro e w3 ⟨rfl, hb⟩
                       have H3 := Lib.hid (H2.out.next hb)
                       clear n0x n1x n2x d0x d1x d2x v0x v1x v2x z0x z1x z2x
                       obtain ⟨n0x, n1x, n2x⟩ := box3 H3.out.n
                       obtain ⟨d0x, d1x, d2x⟩ := box3 H3.out.d
                       have v0x := H3.out.cell 6 _ rfl
                       have z0x := H3.out.fz 6
                       have v1x := H3.out.cell 7 _ rfl
                       have z1x := H3.out.fz 7
                       have v2x := H3.out.cell 8 _ rfl
                       have z2x := H3.out.fz 8
                       have HY : Hid (∀ v6, v6 = .int .i64 ((3 : Nat) : Int) → LnL w d0 d1 true n0 n1 n2 v6 (((w3.setCell ⟨w.heap.size + 1 + 1, 6, none⟩ (.int .i64 3)).setCell ⟨w.heap.size + 1 + 1, 7, none⟩ (.int .i64 n2)).setCell ⟨w.heap.size + 1 + 1, 8, none⟩ (.string ⟨#[]⟩))) := Lib.hid fun v6 h6 => ⟨3, h6, by omega, H3.out.put 6 (.int .i64 3) (.int .i64 n2) (.string ⟨#[]⟩)⟩
                       clear hb)
          go_roundw
          case rel => first | exact HY.out _ (by go_num) | ((repeat apply Exists.intro); exact ⟨HY.out _ (by go_num), rfl⟩)
          case measure => simp [intOf]
    · obtain rfl : i = 3 := by omega
      have HS := Lib.hid hs
      obtain ⟨x, hx⟩ : ∃ x, x = signN (kd d0) n0 (kd d1) n1 := ⟨_, rfl⟩
      obtain ⟨y, hy⟩ : ∃ y, y = signN (kd d1) n1 (kd d2) n2 := ⟨_, rfl⟩
      obtain ⟨z, hz⟩ : ∃ z, z = signN (kd d0) n0 (kd d2) n2 := ⟨_, rfl⟩
      obtain ⟨v, hv⟩ : ∃ v, v = signN (kd d1) n1 (kd d0) n0 := ⟨_, rfl⟩
      have S1 := Lib.hid (sign_num (kd d0) n0 (kd d1) n1 (kd_23 _) (kd_23 _) HN.out.1 HN.out.2.1)
      have S2 := Lib.hid (sign_num (kd d1) n1 (kd d2) n2 (kd_23 _) (kd_23 _) HN.out.2.1 HN.out.2.2)
      have S3 := Lib.hid (sign_num (kd d0) n0 (kd d2) n2 (kd_23 _) (kd_23 _) HN.out.1 HN.out.2.2)
      have S4 := Lib.hid (sign_num (kd d1) n1 (kd d0) n0 (kd_23 _) (kd_23 _) HN.out.2.1 HN.out.1)
      have CP := Lib.hid (fun op hop => compare_num op (kd d0) n0 (kd d1) n1 hop (kd_23 _) (kd_23 _) HN.out.1 HN.out.2.1)
      rw [← hx] at S1 CP
      rw [← hy] at S2
      rw [← hz] at S3
      rw [← hv] at S4
      rw [sign_scal _ _ _ _ (kd_23 _) (kd_23 _)] at hx hy hz hv
      have HF := Lib.hid (line_facts hx hy hz hv)
      have HX0 : Hid (x = 1) := Lib.hid (by rw [hx, ← sign_scal _ _ _ _ (kd_23 _) (kd_23 _)]; exact hxv)
      have HXN : Hid (d0 = d1 → (x < 0 ↔ n0 < n1)) := Lib.hid (fun e => by
        subst e
        exact (line_facts hx hy hz hv).2.2.2.trans (scal_lt d0 n0 n1))
      clear hx hy hz hv hs hi hlt hxv
      obtain ⟨k0, hk0⟩ : ∃ k0, Hid (k0 = kd d0) := ⟨_, Lib.hid rfl⟩
      obtain ⟨k1, hk1⟩ : ∃ k1, Hid (k1 = kd d1) := ⟨_, Lib.hid rfl⟩
      obtain ⟨k2, hk2⟩ : ∃ k2, Hid (k2 = kd d2) := ⟨_, Lib.hid rfl⟩
      rw [← hk0.out, ← hk1.out] at S1 S4 CP
      rw [← hk1.out, ← hk2.out] at S2
      rw [← hk0.out, ← hk2.out] at S3
      have HS : Hid (LnS w w.heap.size (w.heap.size + 1) (w.heap.size + 1 + 1) d0 d1 d2 n0 n1 n2 #[.int .i64 k0, .int .i64 n0, .string ⟨#[]⟩, .int .i64 k1, .int .i64 n1, .string ⟨#[]⟩, .int .i64 k2, .int .i64 n2, .string ⟨#[]⟩] wr) := Lib.hid (by
        rw [hk0.out, hk1.out, hk2.out]
        exact HS.out)
      obtain ⟨d0x, d1x, d2x⟩ := box3 HS.out.d
      obtain ⟨n0x, n1x, n2x⟩ := box3 HS.out.n
      have c0x := HS.out.cell 0 _ rfl
      have c1x := HS.out.cell 1 _ rfl
      have c2x := HS.out.cell 2 _ rfl
      have c3x := HS.out.cell 3 _ rfl
      have c4x := HS.out.cell 4 _ rfl
      have c5x := HS.out.cell 5 _ rfl
      have c6x := HS.out.cell 6 _ rfl
      have c7x := HS.out.cell 7 _ rfl
      have c8x := HS.out.cell 8 _ rfl
      go_upto_region 12 with (first
        | (go_at_call 10; (with_reducible refine (S1.out _).mono ?_); rintro e w5 ⟨rfl, hb⟩
           have HS := Lib.hid (HS.out.next hb)
           clear d0x d1x d2x n0x n1x n2x c0x c1x c2x c3x c4x c5x c6x c7x c8x
           obtain ⟨d0x, d1x, d2x⟩ := box3 HS.out.d
           obtain ⟨n0x, n1x, n2x⟩ := box3 HS.out.n
           have c0x := HS.out.cell 0 _ rfl
           have c1x := HS.out.cell 1 _ rfl
           have c2x := HS.out.cell 2 _ rfl
           have c3x := HS.out.cell 3 _ rfl
           have c4x := HS.out.cell 4 _ rfl
           have c5x := HS.out.cell 5 _ rfl
           have c6x := HS.out.cell 6 _ rfl
           have c7x := HS.out.cell 7 _ rfl
           have c8x := HS.out.cell 8 _ rfl
           clear hb)
        | (go_at_call 10; (with_reducible refine (S2.out _).mono ?_); rintro e w6 ⟨rfl, hb⟩
           have HS := Lib.hid (HS.out.next hb)
           clear d0x d1x d2x n0x n1x n2x c0x c1x c2x c3x c4x c5x c6x c7x c8x
           obtain ⟨d0x, d1x, d2x⟩ := box3 HS.out.d
           obtain ⟨n0x, n1x, n2x⟩ := box3 HS.out.n
           have c0x := HS.out.cell 0 _ rfl
           have c1x := HS.out.cell 1 _ rfl
           have c2x := HS.out.cell 2 _ rfl
           have c3x := HS.out.cell 3 _ rfl
           have c4x := HS.out.cell 4 _ rfl
           have c5x := HS.out.cell 5 _ rfl
           have c6x := HS.out.cell 6 _ rfl
           have c7x := HS.out.cell 7 _ rfl
           have c8x := HS.out.cell 8 _ rfl
           clear hb)
        | (go_at_call 10; (with_reducible refine (S3.out _).mono ?_); rintro e w7 ⟨rfl, hb⟩
           have HS := Lib.hid (HS.out.next hb)
           clear d0x d1x d2x n0x n1x n2x c0x c1x c2x c3x c4x c5x c6x c7x c8x
           obtain ⟨d0x, d1x, d2x⟩ := box3 HS.out.d
           obtain ⟨n0x, n1x, n2x⟩ := box3 HS.out.n
           have c0x := HS.out.cell 0 _ rfl
           have c1x := HS.out.cell 1 _ rfl
           have c2x := HS.out.cell 2 _ rfl
           have c3x := HS.out.cell 3 _ rfl
           have c4x := HS.out.cell 4 _ rfl
           have c5x := HS.out.cell 5 _ rfl
           have c6x := HS.out.cell 6 _ rfl
           have c7x := HS.out.cell 7 _ rfl
           have c8x := HS.out.cell 8 _ rfl
           clear hb)
        | (go_at_call 10; (with_reducible refine (S4.out _).mono ?_); rintro e w8 ⟨rfl, hb⟩
           have HS := Lib.hid (HS.out.next hb)
           clear d0x d1x d2x n0x n1x n2x c0x c1x c2x c3x c4x c5x c6x c7x c8x
           obtain ⟨d0x, d1x, d2x⟩ := box3 HS.out.d
           obtain ⟨n0x, n1x, n2x⟩ := box3 HS.out.n
           have c0x := HS.out.cell 0 _ rfl
           have c1x := HS.out.cell 1 _ rfl
           have c2x := HS.out.cell 2 _ rfl
           have c3x := HS.out.cell 3 _ rfl
           have c4x := HS.out.cell 4 _ rfl
           have c5x := HS.out.cell 5 _ rfl
           have c6x := HS.out.cell 6 _ rfl
           have c7x := HS.out.cell 7 _ rfl
           have c8x := HS.out.cell 8 _ rfl
           clear hb))
      have HSW := Lib.hid HS.out
      clear d0x d1x d2x n0x n1x n2x c0x c1x c2x c3x c4x c5x c6x c7x c8x
      go_cut [119] (fun v119 wx => LnF w d0 d1 d2 n0 n1 n2 k0 k1 k2 v119 wx)
      case first =>
        obtain ⟨d0x, d1x, d2x⟩ := box3 HS.out.d
        obtain ⟨n0x, n1x, n2x⟩ := box3 HS.out.n
        have hvx := HF.out.1
        subst hvx
        by_cases hd : d0 = d1
        · have hd2 : (d0 == d1) = true := by simpa using hd
          have hxn := HXN.out hd
          clear hd
          have hx := HX0.out
          subst hx
          have hnn : ¬ n0 < n1 := fun e => absurd (hxn.2 e) (by omega)
          clear hxn
          go_wp2_with fail
          go_meet
          exact ⟨rfl, HSW.out⟩
        · have hd2 : (d0 == d1) = false := by simpa using hd
          clear hd
          have hx := HX0.out
          subst hx
          go_wp2_with fail
          go_meet
          exact ⟨rfl, HSW.out⟩
      case rest =>
        obtain ⟨W9, hW9, rfl, hw9⟩ := LnF.world hcut
        subst hW9
        have HSX := Lib.hid hw9
        clear hw9 hcut HSW HS
        have hx := HX0.out
        clear HF HXN S1 S2 S3 S4 HX0
        subst hx
        go_upto_region 15 with fail
        go_wp2_with fail
        obtain ⟨W10, hW10⟩ : ∃ W10, W10 = (W9.alloc (.cells #[.int .i64 8, .int .i64 9, .int .i64 10, .int .i64 11, .int .i64 12, .int .i64 13] 22)).alloc (.cells #[.bool false, .bool true, .bool false, .bool false, .bool true, .bool true] 4) := ⟨_, rfl⟩
        rw [← hW10]
        obtain ⟨go, hgo⟩ : ∃ go, go = W9.heap.size := ⟨_, rfl⟩
        have HO : Hid (W10.heap[go]? = some (.cells #[.int .i64 8, .int .i64 9, .int .i64 10, .int .i64 11, .int .i64 12, .int .i64 13] 22 (0, 0))) := Lib.hid (by
          rw [hW10, heap_at, if_neg (by simp [hgo]), hgo]
          exact heap_alloc_new W9 _)
        have HT : Hid (W10.heap[go + 1]? = some (.cells #[.bool false, .bool true, .bool false, .bool false, .bool true, .bool true] 4 (0, 0))) := Lib.hid (by rw [hW10, heap_at, if_pos (by simp [hgo])])
        have HS10 : Hid (LnS w w.heap.size (w.heap.size + 1) (w.heap.size + 1 + 1) d0 d1 d2 n0 n1 n2 #[.int .i64 k0, .int .i64 n0, .string ⟨#[]⟩, .int .i64 k1, .int .i64 n1, .string ⟨#[]⟩, .int .i64 k2, .int .i64 n2, .string ⟨#[]⟩] W10) := Lib.hid (by rw [hW10]; exact HSX.out.next (alloc2_below W9 _ _))
        rw [← hgo]
        clear hW10 hgo
        have HQ0 := Lib.hid (fun (W : World) (h : Below W10.heap.size W10 W) => And.intro ((h.block go (Array.getElem?_eq_some_iff.1 HO.out).1).trans HO.out) (And.intro ((h.block (go + 1) (Array.getElem?_eq_some_iff.1 HT.out).1).trans HT.out) (HS10.out.next h)))
        have HST2 : Hid (LnR W10 (.int .i64 0) W10) := Lib.hid ⟨0, rfl, by omega, Below.refl _ _⟩
        go_loopw [17] (fun v17 wr => LnR W10 v17 wr) (fun v17 _ => 6 - (intOf v17).toNat)
        case atStart => exact HST2.out
        case round =>
          clear HST2
          obtain ⟨W11, hW11, hrel2⟩ := LnR.world hrel
          subst hW11
          obtain ⟨i, rfl, hi, hb⟩ := hrel2
          have HB11 := Lib.hid hb
          clear hb
          by_cases hlt : i < 6
          · obtain rfl | rfl | rfl | rfl | rfl | rfl : i = 0 ∨ i = 1 ∨ i = 2 ∨ i = 3 ∨ i = 4 ∨ i = 5 := by omega
            · have C0 := CP.out 8 (by omega)
              rw [show (if holdsB 8 (1) then (1 : Int) else 0) = 0 by decide] at C0
              have C := Lib.hid C0
              clear C0 hi
              have HQ : Hid (∀ W, Below W11.heap.size W11 W → (W.cell? ⟨go, 0, none⟩ = some (.int .i64 8) ∧ W.cell? ⟨w.heap.size + 1 + 1, 0, none⟩ = some (.int .i64 k0) ∧ W.cell? ⟨w.heap.size + 1 + 1, 1, none⟩ = some (.int .i64 n0) ∧ W.cell? ⟨w.heap.size + 1 + 1, 2, none⟩ = some (.string ⟨#[]⟩) ∧ W.cell? ⟨w.heap.size + 1 + 1, 3, none⟩ = some (.int .i64 k1) ∧ W.cell? ⟨w.heap.size + 1 + 1, 4, none⟩ = some (.int .i64 n1) ∧ W.cell? ⟨w.heap.size + 1 + 1, 5, none⟩ = some (.string ⟨#[]⟩))) := Lib.hid fun W h => by
                obtain ⟨h1, _, h3⟩ := HQ0.out W (HB11.out.trans (h.mono HB11.out.size))
                exact ⟨by simp [World.cell?, h1], h3.cell 0 _ rfl, h3.cell 1 _ rfl, h3.cell 2 _ rfl, h3.cell 3 _ rfl, h3.cell 4 _ rfl, h3.cell 5 _ rfl⟩
              go_upto_region 19 with fail
              go_cut [18, 19] (fun v18 v19 wx => LnD W11 0 v18 v19 wx)
              case first =>
                go_region_held3 (fun W => (W.cell? ⟨go, 0, none⟩ = some (.int .i64 8) ∧ W.cell? ⟨w.heap.size + 1 + 1, 0, none⟩ = some (.int .i64 k0) ∧ W.cell? ⟨w.heap.size + 1 + 1, 1, none⟩ = some (.int .i64 n0) ∧ W.cell? ⟨w.heap.size + 1 + 1, 2, none⟩ = some (.string ⟨#[]⟩) ∧ W.cell? ⟨w.heap.size + 1 + 1, 3, none⟩ = some (.int .i64 k1) ∧ W.cell? ⟨w.heap.size + 1 + 1, 4, none⟩ = some (.int .i64 n1) ∧ W.cell? ⟨w.heap.size + 1 + 1, 5, none⟩ = some (.string ⟨#[]⟩)))
                  (first
                    | exact HQ.out _ HC12.out
                    | exact HQ.out _ (HC12.out.trans ((alloc_below _ _).mono HC12.out.size))
                    | exact HQ.out _ (set3_below0 HC12.out (Nat.le_refl _) _ _ _)
                    | exact HQ.out _ (drew_below _)
                    | exact HQ.out _ ((drew_below _).trans ((alloc_below _ _).mono (Nat.le_refl _))))
                  (first
                  | (go_at_call 8; refine (C.out _).mono ?_; rintro e w12 ⟨rfl, hb12⟩
                     have HC12 : Hid (Below W11.heap.size W11 w12) := Lib.hid (by first | exact (drew_below W11).trans hb12 | exact ((drew_below W11).trans ((alloc_below _ _).mono (Nat.le_refl _))).trans (hb12.mono (by simp)))
                     (first
                       | (have hx := (hb12.block W11.heap.size (by simp)).trans (heap_alloc_new W11.drew (.cells #[.int .i64 0, .int .i64 0, .string ⟨#[]⟩] 25))
                          have HZ := Lib.hid hx
                          obtain ⟨r0, r1, r2⟩ := box3 hx
                          have z0 := frozen3 hx 0
                          have z1 := frozen3 hx 1
                          have z2 := frozen3 hx 2
                          clear hx)
                       | skip)
                     clear hb12)
                  | fail)
                all_goals
                  go_wp2_with fail
                  go_meet
                  first
                    | exact ⟨_, rfl, rfl, heap_alloc_new w12 _, HC12.out.trans ((alloc_below w12 _).mono HC12.out.size)⟩
                    | exact ⟨_, rfl, rfl, heap_set3 HZ.out, set3_below0 HC12.out (Nat.le_refl _) _ _ _⟩
              case rest =>
                obtain ⟨W13, hW13, hcut3⟩ := LnD.world hcut
                subst hW13
                obtain ⟨g, rfl, rfl, hp, hb13⟩ := hcut3
                obtain ⟨g0, g1, g2⟩ := box3 hp
                have HB13 := Lib.hid (HB11.out.trans (hb13.mono HB11.out.size))
                have ht := (HQ0.out W13 HB13.out).2.1
                have ht0 : W13.cell? ⟨go + 1, 0, none⟩ = some (.bool false) := by simp [World.cell?, ht]
                have HY : Hid (∀ m v17, v17 = .int .i64 ((1 : Nat) : Int) → LnR W10 v17 (W13.drewN m)) := Lib.hid fun m v17 h17 => ⟨1, h17, by omega, HB13.out.trans ((drewN_below _ m).mono HB13.out.size)⟩
                clear hp hb13 ht hcut HQ
                go_wp2_with fail
                go_quiet (fail)
                go_wp2_with fail
                go_roundw
                case rel => first | exact HY.out _ _ (by go_num) | ((repeat apply Exists.intro); exact ⟨HY.out _ (.int .i64 1) (by go_num), rfl⟩)
                case measure => simp [intOf]
            · have C0 := CP.out 9 (by omega)
              rw [show (if holdsB 9 (1) then (1 : Int) else 0) = 1 by decide] at C0
              have C := Lib.hid C0
              clear C0 hi
              have HQ : Hid (∀ W, Below W11.heap.size W11 W → (W.cell? ⟨go, 1, none⟩ = some (.int .i64 9) ∧ W.cell? ⟨w.heap.size + 1 + 1, 0, none⟩ = some (.int .i64 k0) ∧ W.cell? ⟨w.heap.size + 1 + 1, 1, none⟩ = some (.int .i64 n0) ∧ W.cell? ⟨w.heap.size + 1 + 1, 2, none⟩ = some (.string ⟨#[]⟩) ∧ W.cell? ⟨w.heap.size + 1 + 1, 3, none⟩ = some (.int .i64 k1) ∧ W.cell? ⟨w.heap.size + 1 + 1, 4, none⟩ = some (.int .i64 n1) ∧ W.cell? ⟨w.heap.size + 1 + 1, 5, none⟩ = some (.string ⟨#[]⟩))) := Lib.hid fun W h => by
                obtain ⟨h1, _, h3⟩ := HQ0.out W (HB11.out.trans (h.mono HB11.out.size))
                exact ⟨by simp [World.cell?, h1], h3.cell 0 _ rfl, h3.cell 1 _ rfl, h3.cell 2 _ rfl, h3.cell 3 _ rfl, h3.cell 4 _ rfl, h3.cell 5 _ rfl⟩
              go_upto_region 19 with fail
              go_cut [18, 19] (fun v18 v19 wx => LnD W11 1 v18 v19 wx)
              case first =>
                go_region_held3 (fun W => (W.cell? ⟨go, 1, none⟩ = some (.int .i64 9) ∧ W.cell? ⟨w.heap.size + 1 + 1, 0, none⟩ = some (.int .i64 k0) ∧ W.cell? ⟨w.heap.size + 1 + 1, 1, none⟩ = some (.int .i64 n0) ∧ W.cell? ⟨w.heap.size + 1 + 1, 2, none⟩ = some (.string ⟨#[]⟩) ∧ W.cell? ⟨w.heap.size + 1 + 1, 3, none⟩ = some (.int .i64 k1) ∧ W.cell? ⟨w.heap.size + 1 + 1, 4, none⟩ = some (.int .i64 n1) ∧ W.cell? ⟨w.heap.size + 1 + 1, 5, none⟩ = some (.string ⟨#[]⟩)))
                  (first
                    | exact HQ.out _ HC12.out
                    | exact HQ.out _ (HC12.out.trans ((alloc_below _ _).mono HC12.out.size))
                    | exact HQ.out _ (set3_below0 HC12.out (Nat.le_refl _) _ _ _)
                    | exact HQ.out _ (drew_below _)
                    | exact HQ.out _ ((drew_below _).trans ((alloc_below _ _).mono (Nat.le_refl _))))
                  (first
                  | (go_at_call 8; refine (C.out _).mono ?_; rintro e w12 ⟨rfl, hb12⟩
                     have HC12 : Hid (Below W11.heap.size W11 w12) := Lib.hid (by first | exact (drew_below W11).trans hb12 | exact ((drew_below W11).trans ((alloc_below _ _).mono (Nat.le_refl _))).trans (hb12.mono (by simp)))
                     (first
                       | (have hx := (hb12.block W11.heap.size (by simp)).trans (heap_alloc_new W11.drew (.cells #[.int .i64 0, .int .i64 0, .string ⟨#[]⟩] 25))
                          have HZ := Lib.hid hx
                          obtain ⟨r0, r1, r2⟩ := box3 hx
                          have z0 := frozen3 hx 0
                          have z1 := frozen3 hx 1
                          have z2 := frozen3 hx 2
                          clear hx)
                       | skip)
                     clear hb12)
                  | fail)
                all_goals
                  go_wp2_with fail
                  go_meet
                  first
                    | exact ⟨_, rfl, rfl, heap_alloc_new w12 _, HC12.out.trans ((alloc_below w12 _).mono HC12.out.size)⟩
                    | exact ⟨_, rfl, rfl, heap_set3 HZ.out, set3_below0 HC12.out (Nat.le_refl _) _ _ _⟩
              case rest =>
                obtain ⟨W13, hW13, hcut3⟩ := LnD.world hcut
                subst hW13
                obtain ⟨g, rfl, rfl, hp, hb13⟩ := hcut3
                obtain ⟨g0, g1, g2⟩ := box3 hp
                have HB13 := Lib.hid (HB11.out.trans (hb13.mono HB11.out.size))
                have ht := (HQ0.out W13 HB13.out).2.1
                have ht0 : W13.cell? ⟨go + 1, 1, none⟩ = some (.bool true) := by simp [World.cell?, ht]
                have HY : Hid (∀ m v17, v17 = .int .i64 ((2 : Nat) : Int) → LnR W10 v17 (W13.drewN m)) := Lib.hid fun m v17 h17 => ⟨2, h17, by omega, HB13.out.trans ((drewN_below _ m).mono HB13.out.size)⟩
                clear hp hb13 ht hcut HQ
                go_wp2_with fail
                go_quiet (fail)
                go_wp2_with fail
                go_roundw
                case rel => first | exact HY.out _ _ (by go_num) | ((repeat apply Exists.intro); exact ⟨HY.out _ (.int .i64 2) (by go_num), rfl⟩)
                case measure => simp [intOf]
            · have C0 := CP.out 10 (by omega)
              rw [show (if holdsB 10 (1) then (1 : Int) else 0) = 0 by decide] at C0
              have C := Lib.hid C0
              clear C0 hi
              have HQ : Hid (∀ W, Below W11.heap.size W11 W → (W.cell? ⟨go, 2, none⟩ = some (.int .i64 10) ∧ W.cell? ⟨w.heap.size + 1 + 1, 0, none⟩ = some (.int .i64 k0) ∧ W.cell? ⟨w.heap.size + 1 + 1, 1, none⟩ = some (.int .i64 n0) ∧ W.cell? ⟨w.heap.size + 1 + 1, 2, none⟩ = some (.string ⟨#[]⟩) ∧ W.cell? ⟨w.heap.size + 1 + 1, 3, none⟩ = some (.int .i64 k1) ∧ W.cell? ⟨w.heap.size + 1 + 1, 4, none⟩ = some (.int .i64 n1) ∧ W.cell? ⟨w.heap.size + 1 + 1, 5, none⟩ = some (.string ⟨#[]⟩))) := Lib.hid fun W h => by
                obtain ⟨h1, _, h3⟩ := HQ0.out W (HB11.out.trans (h.mono HB11.out.size))
                exact ⟨by simp [World.cell?, h1], h3.cell 0 _ rfl, h3.cell 1 _ rfl, h3.cell 2 _ rfl, h3.cell 3 _ rfl, h3.cell 4 _ rfl, h3.cell 5 _ rfl⟩
              go_upto_region 19 with fail
              go_cut [18, 19] (fun v18 v19 wx => LnD W11 0 v18 v19 wx)
              case first =>
                go_region_held3 (fun W => (W.cell? ⟨go, 2, none⟩ = some (.int .i64 10) ∧ W.cell? ⟨w.heap.size + 1 + 1, 0, none⟩ = some (.int .i64 k0) ∧ W.cell? ⟨w.heap.size + 1 + 1, 1, none⟩ = some (.int .i64 n0) ∧ W.cell? ⟨w.heap.size + 1 + 1, 2, none⟩ = some (.string ⟨#[]⟩) ∧ W.cell? ⟨w.heap.size + 1 + 1, 3, none⟩ = some (.int .i64 k1) ∧ W.cell? ⟨w.heap.size + 1 + 1, 4, none⟩ = some (.int .i64 n1) ∧ W.cell? ⟨w.heap.size + 1 + 1, 5, none⟩ = some (.string ⟨#[]⟩)))
                  (first
                    | exact HQ.out _ HC12.out
                    | exact HQ.out _ (HC12.out.trans ((alloc_below _ _).mono HC12.out.size))
                    | exact HQ.out _ (set3_below0 HC12.out (Nat.le_refl _) _ _ _)
                    | exact HQ.out _ (drew_below _)
                    | exact HQ.out _ ((drew_below _).trans ((alloc_below _ _).mono (Nat.le_refl _))))
                  (first
                  | (go_at_call 8; refine (C.out _).mono ?_; rintro e w12 ⟨rfl, hb12⟩
                     have HC12 : Hid (Below W11.heap.size W11 w12) := Lib.hid (by first | exact (drew_below W11).trans hb12 | exact ((drew_below W11).trans ((alloc_below _ _).mono (Nat.le_refl _))).trans (hb12.mono (by simp)))
                     (first
                       | (have hx := (hb12.block W11.heap.size (by simp)).trans (heap_alloc_new W11.drew (.cells #[.int .i64 0, .int .i64 0, .string ⟨#[]⟩] 25))
                          have HZ := Lib.hid hx
                          obtain ⟨r0, r1, r2⟩ := box3 hx
                          have z0 := frozen3 hx 0
                          have z1 := frozen3 hx 1
                          have z2 := frozen3 hx 2
                          clear hx)
                       | skip)
                     clear hb12)
                  | fail)
                all_goals
                  go_wp2_with fail
                  go_meet
                  first
                    | exact ⟨_, rfl, rfl, heap_alloc_new w12 _, HC12.out.trans ((alloc_below w12 _).mono HC12.out.size)⟩
                    | exact ⟨_, rfl, rfl, heap_set3 HZ.out, set3_below0 HC12.out (Nat.le_refl _) _ _ _⟩
              case rest =>
                obtain ⟨W13, hW13, hcut3⟩ := LnD.world hcut
                subst hW13
                obtain ⟨g, rfl, rfl, hp, hb13⟩ := hcut3
                obtain ⟨g0, g1, g2⟩ := box3 hp
                have HB13 := Lib.hid (HB11.out.trans (hb13.mono HB11.out.size))
                have ht := (HQ0.out W13 HB13.out).2.1
                have ht0 : W13.cell? ⟨go + 1, 2, none⟩ = some (.bool false) := by simp [World.cell?, ht]
                have HY : Hid (∀ m v17, v17 = .int .i64 ((3 : Nat) : Int) → LnR W10 v17 (W13.drewN m)) := Lib.hid fun m v17 h17 => ⟨3, h17, by omega, HB13.out.trans ((drewN_below _ m).mono HB13.out.size)⟩
                clear hp hb13 ht hcut HQ
                go_wp2_with fail
                go_quiet (fail)
                go_wp2_with fail
                go_roundw
                case rel => first | exact HY.out _ _ (by go_num) | ((repeat apply Exists.intro); exact ⟨HY.out _ (.int .i64 3) (by go_num), rfl⟩)
                case measure => simp [intOf]
            · have C0 := CP.out 11 (by omega)
              rw [show (if holdsB 11 (1) then (1 : Int) else 0) = 0 by decide] at C0
              have C := Lib.hid C0
              clear C0 hi
              have HQ : Hid (∀ W, Below W11.heap.size W11 W → (W.cell? ⟨go, 3, none⟩ = some (.int .i64 11) ∧ W.cell? ⟨w.heap.size + 1 + 1, 0, none⟩ = some (.int .i64 k0) ∧ W.cell? ⟨w.heap.size + 1 + 1, 1, none⟩ = some (.int .i64 n0) ∧ W.cell? ⟨w.heap.size + 1 + 1, 2, none⟩ = some (.string ⟨#[]⟩) ∧ W.cell? ⟨w.heap.size + 1 + 1, 3, none⟩ = some (.int .i64 k1) ∧ W.cell? ⟨w.heap.size + 1 + 1, 4, none⟩ = some (.int .i64 n1) ∧ W.cell? ⟨w.heap.size + 1 + 1, 5, none⟩ = some (.string ⟨#[]⟩))) := Lib.hid fun W h => by
                obtain ⟨h1, _, h3⟩ := HQ0.out W (HB11.out.trans (h.mono HB11.out.size))
                exact ⟨by simp [World.cell?, h1], h3.cell 0 _ rfl, h3.cell 1 _ rfl, h3.cell 2 _ rfl, h3.cell 3 _ rfl, h3.cell 4 _ rfl, h3.cell 5 _ rfl⟩
              go_upto_region 19 with fail
              go_cut [18, 19] (fun v18 v19 wx => LnD W11 0 v18 v19 wx)
              case first =>
                go_region_held3 (fun W => (W.cell? ⟨go, 3, none⟩ = some (.int .i64 11) ∧ W.cell? ⟨w.heap.size + 1 + 1, 0, none⟩ = some (.int .i64 k0) ∧ W.cell? ⟨w.heap.size + 1 + 1, 1, none⟩ = some (.int .i64 n0) ∧ W.cell? ⟨w.heap.size + 1 + 1, 2, none⟩ = some (.string ⟨#[]⟩) ∧ W.cell? ⟨w.heap.size + 1 + 1, 3, none⟩ = some (.int .i64 k1) ∧ W.cell? ⟨w.heap.size + 1 + 1, 4, none⟩ = some (.int .i64 n1) ∧ W.cell? ⟨w.heap.size + 1 + 1, 5, none⟩ = some (.string ⟨#[]⟩)))
                  (first
                    | exact HQ.out _ HC12.out
                    | exact HQ.out _ (HC12.out.trans ((alloc_below _ _).mono HC12.out.size))
                    | exact HQ.out _ (set3_below0 HC12.out (Nat.le_refl _) _ _ _)
                    | exact HQ.out _ (drew_below _)
                    | exact HQ.out _ ((drew_below _).trans ((alloc_below _ _).mono (Nat.le_refl _))))
                  (first
                  | (go_at_call 8; refine (C.out _).mono ?_; rintro e w12 ⟨rfl, hb12⟩
                     have HC12 : Hid (Below W11.heap.size W11 w12) := Lib.hid (by first | exact (drew_below W11).trans hb12 | exact ((drew_below W11).trans ((alloc_below _ _).mono (Nat.le_refl _))).trans (hb12.mono (by simp)))
                     (first
                       | (have hx := (hb12.block W11.heap.size (by simp)).trans (heap_alloc_new W11.drew (.cells #[.int .i64 0, .int .i64 0, .string ⟨#[]⟩] 25))
                          have HZ := Lib.hid hx
                          obtain ⟨r0, r1, r2⟩ := box3 hx
                          have z0 := frozen3 hx 0
                          have z1 := frozen3 hx 1
                          have z2 := frozen3 hx 2
                          clear hx)
                       | skip)
                     clear hb12)
                  | fail)
                all_goals
                  go_wp2_with fail
                  go_meet
                  first
                    | exact ⟨_, rfl, rfl, heap_alloc_new w12 _, HC12.out.trans ((alloc_below w12 _).mono HC12.out.size)⟩
                    | exact ⟨_, rfl, rfl, heap_set3 HZ.out, set3_below0 HC12.out (Nat.le_refl _) _ _ _⟩
              case rest =>
                obtain ⟨W13, hW13, hcut3⟩ := LnD.world hcut
                subst hW13
                obtain ⟨g, rfl, rfl, hp, hb13⟩ := hcut3
                obtain ⟨g0, g1, g2⟩ := box3 hp
                have HB13 := Lib.hid (HB11.out.trans (hb13.mono HB11.out.size))
                have ht := (HQ0.out W13 HB13.out).2.1
                have ht0 : W13.cell? ⟨go + 1, 3, none⟩ = some (.bool false) := by simp [World.cell?, ht]
                have HY : Hid (∀ m v17, v17 = .int .i64 ((4 : Nat) : Int) → LnR W10 v17 (W13.drewN m)) := Lib.hid fun m v17 h17 => ⟨4, h17, by omega, HB13.out.trans ((drewN_below _ m).mono HB13.out.size)⟩
                clear hp hb13 ht hcut HQ
                go_wp2_with fail
                go_quiet (fail)
                go_wp2_with fail
                go_roundw
                case rel => first | exact HY.out _ _ (by go_num) | ((repeat apply Exists.intro); exact ⟨HY.out _ (.int .i64 4) (by go_num), rfl⟩)
                case measure => simp [intOf]
            · have C0 := CP.out 12 (by omega)
              rw [show (if holdsB 12 (1) then (1 : Int) else 0) = 1 by decide] at C0
              have C := Lib.hid C0
              clear C0 hi
              have HQ : Hid (∀ W, Below W11.heap.size W11 W → (W.cell? ⟨go, 4, none⟩ = some (.int .i64 12) ∧ W.cell? ⟨w.heap.size + 1 + 1, 0, none⟩ = some (.int .i64 k0) ∧ W.cell? ⟨w.heap.size + 1 + 1, 1, none⟩ = some (.int .i64 n0) ∧ W.cell? ⟨w.heap.size + 1 + 1, 2, none⟩ = some (.string ⟨#[]⟩) ∧ W.cell? ⟨w.heap.size + 1 + 1, 3, none⟩ = some (.int .i64 k1) ∧ W.cell? ⟨w.heap.size + 1 + 1, 4, none⟩ = some (.int .i64 n1) ∧ W.cell? ⟨w.heap.size + 1 + 1, 5, none⟩ = some (.string ⟨#[]⟩))) := Lib.hid fun W h => by
                obtain ⟨h1, _, h3⟩ := HQ0.out W (HB11.out.trans (h.mono HB11.out.size))
                exact ⟨by simp [World.cell?, h1], h3.cell 0 _ rfl, h3.cell 1 _ rfl, h3.cell 2 _ rfl, h3.cell 3 _ rfl, h3.cell 4 _ rfl, h3.cell 5 _ rfl⟩
              go_upto_region 19 with fail
              go_cut [18, 19] (fun v18 v19 wx => LnD W11 1 v18 v19 wx)
              case first =>
                go_region_held3 (fun W => (W.cell? ⟨go, 4, none⟩ = some (.int .i64 12) ∧ W.cell? ⟨w.heap.size + 1 + 1, 0, none⟩ = some (.int .i64 k0) ∧ W.cell? ⟨w.heap.size + 1 + 1, 1, none⟩ = some (.int .i64 n0) ∧ W.cell? ⟨w.heap.size + 1 + 1, 2, none⟩ = some (.string ⟨#[]⟩) ∧ W.cell? ⟨w.heap.size + 1 + 1, 3, none⟩ = some (.int .i64 k1) ∧ W.cell? ⟨w.heap.size + 1 + 1, 4, none⟩ = some (.int .i64 n1) ∧ W.cell? ⟨w.heap.size + 1 + 1, 5, none⟩ = some (.string ⟨#[]⟩)))
                  (first
                    | exact HQ.out _ HC12.out
                    | exact HQ.out _ (HC12.out.trans ((alloc_below _ _).mono HC12.out.size))
                    | exact HQ.out _ (set3_below0 HC12.out (Nat.le_refl _) _ _ _)
                    | exact HQ.out _ (drew_below _)
                    | exact HQ.out _ ((drew_below _).trans ((alloc_below _ _).mono (Nat.le_refl _))))
                  (first
                  | (go_at_call 8; refine (C.out _).mono ?_; rintro e w12 ⟨rfl, hb12⟩
                     have HC12 : Hid (Below W11.heap.size W11 w12) := Lib.hid (by first | exact (drew_below W11).trans hb12 | exact ((drew_below W11).trans ((alloc_below _ _).mono (Nat.le_refl _))).trans (hb12.mono (by simp)))
                     (first
                       | (have hx := (hb12.block W11.heap.size (by simp)).trans (heap_alloc_new W11.drew (.cells #[.int .i64 0, .int .i64 0, .string ⟨#[]⟩] 25))
                          have HZ := Lib.hid hx
                          obtain ⟨r0, r1, r2⟩ := box3 hx
                          have z0 := frozen3 hx 0
                          have z1 := frozen3 hx 1
                          have z2 := frozen3 hx 2
                          clear hx)
                       | skip)
                     clear hb12)
                  | fail)
                all_goals
                  go_wp2_with fail
                  go_meet
                  first
                    | exact ⟨_, rfl, rfl, heap_alloc_new w12 _, HC12.out.trans ((alloc_below w12 _).mono HC12.out.size)⟩
                    | exact ⟨_, rfl, rfl, heap_set3 HZ.out, set3_below0 HC12.out (Nat.le_refl _) _ _ _⟩
              case rest =>
                obtain ⟨W13, hW13, hcut3⟩ := LnD.world hcut
                subst hW13
                obtain ⟨g, rfl, rfl, hp, hb13⟩ := hcut3
                obtain ⟨g0, g1, g2⟩ := box3 hp
                have HB13 := Lib.hid (HB11.out.trans (hb13.mono HB11.out.size))
                have ht := (HQ0.out W13 HB13.out).2.1
                have ht0 : W13.cell? ⟨go + 1, 4, none⟩ = some (.bool true) := by simp [World.cell?, ht]
                have HY : Hid (∀ m v17, v17 = .int .i64 ((5 : Nat) : Int) → LnR W10 v17 (W13.drewN m)) := Lib.hid fun m v17 h17 => ⟨5, h17, by omega, HB13.out.trans ((drewN_below _ m).mono HB13.out.size)⟩
                clear hp hb13 ht hcut HQ
                go_wp2_with fail
                go_quiet (fail)
                go_wp2_with fail
                go_roundw
                case rel => first | exact HY.out _ _ (by go_num) | ((repeat apply Exists.intro); exact ⟨HY.out _ (.int .i64 5) (by go_num), rfl⟩)
                case measure => simp [intOf]
            · have C0 := CP.out 13 (by omega)
              rw [show (if holdsB 13 (1) then (1 : Int) else 0) = 1 by decide] at C0
              have C := Lib.hid C0
              clear C0 hi
              have HQ : Hid (∀ W, Below W11.heap.size W11 W → (W.cell? ⟨go, 5, none⟩ = some (.int .i64 13) ∧ W.cell? ⟨w.heap.size + 1 + 1, 0, none⟩ = some (.int .i64 k0) ∧ W.cell? ⟨w.heap.size + 1 + 1, 1, none⟩ = some (.int .i64 n0) ∧ W.cell? ⟨w.heap.size + 1 + 1, 2, none⟩ = some (.string ⟨#[]⟩) ∧ W.cell? ⟨w.heap.size + 1 + 1, 3, none⟩ = some (.int .i64 k1) ∧ W.cell? ⟨w.heap.size + 1 + 1, 4, none⟩ = some (.int .i64 n1) ∧ W.cell? ⟨w.heap.size + 1 + 1, 5, none⟩ = some (.string ⟨#[]⟩))) := Lib.hid fun W h => by
                obtain ⟨h1, _, h3⟩ := HQ0.out W (HB11.out.trans (h.mono HB11.out.size))
                exact ⟨by simp [World.cell?, h1], h3.cell 0 _ rfl, h3.cell 1 _ rfl, h3.cell 2 _ rfl, h3.cell 3 _ rfl, h3.cell 4 _ rfl, h3.cell 5 _ rfl⟩
              go_upto_region 19 with fail
              go_cut [18, 19] (fun v18 v19 wx => LnD W11 1 v18 v19 wx)
              case first =>
                go_region_held3 (fun W => (W.cell? ⟨go, 5, none⟩ = some (.int .i64 13) ∧ W.cell? ⟨w.heap.size + 1 + 1, 0, none⟩ = some (.int .i64 k0) ∧ W.cell? ⟨w.heap.size + 1 + 1, 1, none⟩ = some (.int .i64 n0) ∧ W.cell? ⟨w.heap.size + 1 + 1, 2, none⟩ = some (.string ⟨#[]⟩) ∧ W.cell? ⟨w.heap.size + 1 + 1, 3, none⟩ = some (.int .i64 k1) ∧ W.cell? ⟨w.heap.size + 1 + 1, 4, none⟩ = some (.int .i64 n1) ∧ W.cell? ⟨w.heap.size + 1 + 1, 5, none⟩ = some (.string ⟨#[]⟩)))
                  (first
                    | exact HQ.out _ HC12.out
                    | exact HQ.out _ (HC12.out.trans ((alloc_below _ _).mono HC12.out.size))
                    | exact HQ.out _ (set3_below0 HC12.out (Nat.le_refl _) _ _ _)
                    | exact HQ.out _ (drew_below _)
                    | exact HQ.out _ ((drew_below _).trans ((alloc_below _ _).mono (Nat.le_refl _))))
                  (first
                  | (go_at_call 8; refine (C.out _).mono ?_; rintro e w12 ⟨rfl, hb12⟩
                     have HC12 : Hid (Below W11.heap.size W11 w12) := Lib.hid (by first | exact (drew_below W11).trans hb12 | exact ((drew_below W11).trans ((alloc_below _ _).mono (Nat.le_refl _))).trans (hb12.mono (by simp)))
                     (first
                       | (have hx := (hb12.block W11.heap.size (by simp)).trans (heap_alloc_new W11.drew (.cells #[.int .i64 0, .int .i64 0, .string ⟨#[]⟩] 25))
                          have HZ := Lib.hid hx
                          obtain ⟨r0, r1, r2⟩ := box3 hx
                          have z0 := frozen3 hx 0
                          have z1 := frozen3 hx 1
                          have z2 := frozen3 hx 2
                          clear hx)
                       | skip)
                     clear hb12)
                  | fail)
                all_goals
                  go_wp2_with fail
                  go_meet
                  first
                    | exact ⟨_, rfl, rfl, heap_alloc_new w12 _, HC12.out.trans ((alloc_below w12 _).mono HC12.out.size)⟩
                    | exact ⟨_, rfl, rfl, heap_set3 HZ.out, set3_below0 HC12.out (Nat.le_refl _) _ _ _⟩
              case rest =>
                obtain ⟨W13, hW13, hcut3⟩ := LnD.world hcut
                subst hW13
                obtain ⟨g, rfl, rfl, hp, hb13⟩ := hcut3
                obtain ⟨g0, g1, g2⟩ := box3 hp
                have HB13 := Lib.hid (HB11.out.trans (hb13.mono HB11.out.size))
                have ht := (HQ0.out W13 HB13.out).2.1
                have ht0 : W13.cell? ⟨go + 1, 5, none⟩ = some (.bool true) := by simp [World.cell?, ht]
                have HY : Hid (∀ m v17, v17 = .int .i64 ((6 : Nat) : Int) → LnR W10 v17 (W13.drewN m)) := Lib.hid fun m v17 h17 => ⟨6, h17, by omega, HB13.out.trans ((drewN_below _ m).mono HB13.out.size)⟩
                clear hp hb13 ht hcut HQ
                go_wp2_with fail
                go_quiet (fail)
                go_wp2_with fail
                go_roundw
                case rel => first | exact HY.out _ _ (by go_num) | ((repeat apply Exists.intro); exact ⟨HY.out _ (.int .i64 6) (by go_num), rfl⟩)
                case measure => simp [intOf]
          · obtain rfl : i = 6 := by omega
            clear hi hlt
            go_wp2_with (go_at_call 7; refine (AL.out _ (HG.out.below (HQ0.out _ HB11.out).2.2.bel)).mono ?_; rintro e w14 ⟨rfl, hb⟩
                         have HE := Lib.hid ((HQ0.out _ HB11.out).2.2.next hb)
                         clear hb)
            go_ret
            exact ⟨rfl, HE.out.bel⟩
end Go.Proofs.YtdbbnpihmibalaaDoor
