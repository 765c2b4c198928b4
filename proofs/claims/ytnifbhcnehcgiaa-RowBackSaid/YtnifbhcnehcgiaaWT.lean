/- RowBack: the law's own body answers true. -/
import Derived.Test.YtnifbhcnehcgiaaWS
namespace Go.Proofs.Ytnifbhcnehcgiaa
open Go.RowKit

set_option maxRecDepth 100000 in
set_option maxHeartbeats 80000000 in
theorem rowBack_law (l : List Val) (b c : List UInt8) (A C D : Option Addr) (cap1 cap2 cap3 : Nat) (w : World) (hla : l.length ≤ maxLen) (hlb : b.length ≤ cap2) (hka : AllOk l) (hr : RdV w w.heap.size A l) (hrb : RdB w w.heap.size C b) (hrc : RdB w w.heap.size D c) :
    Calls Try.prog 7 #[.slice A l.length cap1, .slice C b.length cap2, .slice D c.length cap3] w (Ans (.bool true) w) := by
  obtain ⟨i0, hi, hz0, hz1, hz2⟩ := info_parts info8
  have HR := Lib.hid hr
  have HRB := Lib.hid hrb
  have HRC := Lib.hid hrc
  have AL := Lib.hid alive5_any
  obtain ⟨p, hp⟩ : ∃ p, Hid (p = fewB l) := ⟨_, Lib.hid rfl⟩
  have FW := Lib.hid (few5_any l A cap1 w hla hka hr)
  rw [← hp.out] at FW
  have HCB := Lib.hid hlb
  have HKA := Lib.hid hka
  by_cases hall : p = true ∧ b.length ≤ 5000 ∧ c.length ≤ 100
  · obtain ⟨rfl, hb5, hc1⟩ := hall
    have HL20 := Lib.hid (few_len hp.out.symm)
    have hb5i : ¬ (5000 : Int) < (b.length : Int) := by omega
    have hc1i : ¬ (100 : Int) < (c.length : Int) := by omega
    have HCL := Lib.hid hc1
    have SA : Hid (sameL l l = true) := Lib.hid (sameL_self l)
    clear hr hrb hrc hla hlb hka hb5 hc1
    go_enter Try.func7, Try.ntmps7
    go_wp2_with (go_at_call 17; refine FW.out.mono ?_; rintro e w1 ⟨rfl, rfl⟩)
    obtain ⟨sb, hsb⟩ := ba_of b
    have HSB := Lib.hid hsb
    clear hsb
    by_cases hD : ∃ m, (∀ x ∈ m, Val.R x) ∧ m.length ≤ 16 ∧ b = rowB m
    all_goals first
      | (obtain ⟨m, hmR, hm16, hbm⟩ := hD
         refine (decodeR_yes b m hmR hm16 hbm C _ cap2 rfl w HCB.out HRB.out).mono ?_
         rintro e w6 ⟨vz, rfl, hoz, hbz⟩
         obtain ⟨Z, kz, rfl, hkz⟩ := hoz.2
         have HOZ := Lib.hid hoz
         have HB := Lib.hid hbz
         have HMR := Lib.hid hmR
         have HM16 := Lib.hid hm16
         have HBM := Lib.hid hbm
         clear hoz hbz hmR hm16 hbm
         go_wp2_with fail
         refine (encodeR_right m Z _ kz rfl w6 HM16.out (allok_R' HMR.out) HMR.out HOZ.out.rd).mono ?_
         rintro e w7 ⟨vw, rfl, how, hbw⟩
         have c1 := conv_ownS how sb (by rw [HSB.out, HBM.out])
         obtain ⟨Ww, kw, rfl, hkw⟩ := how.2
         have HB := Lib.hid (HB.out.trans (hbw.mono HB.out.size))
         have c2 := conv_rd (cap := cap2) ((HRB.out.below HB.out (Nat.le_refl _)).more HB.out.size) rfl sb HSB.out
         clear how hbw)
      | (refine (decodeR_no b hD C _ cap2 rfl w HCB.out HRB.out).mono ?_
         rintro e w7 ⟨rfl, hb7⟩
         have HB := Lib.hid hb7
         clear hb7 hD)
    all_goals
      go_wp2_with fail
      by_cases hen : encOk l
      · have HEN := Lib.hid hen
        have hR : ∀ x ∈ l, x.R := fun x hx => ⟨hen.2 x hx, (HKA.out x hx).1⟩
        have HRR := Lib.hid hR
        have HEL : Hid ((rowB l).length ≤ 3400) := Lib.hid (by
          have h1 := rowL_len hR
          have h2 := hen.1
          unfold rowB
          rw [List.length_cons]
          omega)
        have HM0 : Hid (([] : List UInt8).length + (rowB l).length ≤ 1000000) := Lib.hid (by have h1 := HEL.out; simp; omega)
        have HM1 : Hid ((rowB l).length + c.length ≤ 1000000) := Lib.hid (by have h1 := HEL.out; have h2 := HCL.out; omega)
        clear hen hR
        refine (encodeR_right l A _ cap1 rfl w7 HEN.out.1 HKA.out HRR.out ((HR.out.below HB.out (Nat.le_refl _)).more HB.out.size)).mono ?_
        rintro e w8 ⟨vx, rfl, hox, hbx⟩
        obtain ⟨X, kx, rfl, hkx⟩ := hox.2
        have HOX := Lib.hid hox
        have HB := Lib.hid (HB.out.trans (hbx.mono HB.out.size))
        clear hox hbx
        go_wp2_with fail
        go_loopw [14, 15] (fun v14 v15 wr => RB1 w8 l v14 v15 wr) (fun _ v15 _ => l.length - (intOf v15).toNat)
        case atStart => exact ⟨0, _, rfl, rfl, Nat.zero_le _, (by rw [rightT_0]; simp; omega), Below.refl _ _⟩
        case round =>
          obtain ⟨k, q, rfl, rfl, hk, hq, hb⟩ := hrel
          have HQ := Lib.hid hq
          have HB1 := Lib.hid hb
          clear hq hb
          by_cases hlt : k < l.length
          · have hki : (k : Int) < (l.length : Int) := by omega
            have hkd : decide (k < l.length) = true := decide_eq_true hlt
            have hkb : (k : Int) ≤ 20 := by have := HL20.out; omega
            obtain ⟨x, hx⟩ : ∃ x, l[k]? = some x := ⟨_, List.getElem?_eq_getElem hlt⟩
            obtain ⟨b0, o0, hA, c0, c1, c2⟩ := (HR.out.below HB.out (Nat.le_refl _)).at_ hx (HB1.out.mono HB.out.size) (Nat.le_refl _)
            have RX := Lib.hid (right_at' x (HKA.out x (List.mem_of_getElem? hx)).2)
            obtain ⟨qx, hqx⟩ : ∃ qx, Hid (qx = rightB x) := ⟨_, Lib.hid rfl⟩
            rw [← hqx.out] at RX
            have HNX : Hid (∀ q' v15 wq, q' = (q && qx) → v15 = .int .i64 ((k + 1 : Nat) : Int) → Below wr.heap.size wr wq → RB1 w8 l (.bool q') v15 wq) := Lib.hid fun q' v15 wq hq' h15 hbq => ⟨k + 1, q', h15, rfl, hlt, by rw [hq', rightT_next hx, HQ.out, hqx.out], HB1.out.trans (hbq.mono HB1.out.size)⟩
            subst hA
            clear hx hlt hk
            cases q with
            | true =>
              go_wp2_with (go_at_call 27; refine (RX.out _).mono ?_; rintro e w9 ⟨rfl, hb9⟩; have HB9 := Lib.hid hb9; clear hb9)
              go_roundw
              case rel => first | exact HNX.out _ _ _ (by simp) (by go_num) HB9.out | ((repeat apply Exists.intro); exact ⟨HNX.out _ _ _ (by simp) (by go_num) HB9.out, rfl⟩)
              case measure => simp [intOf]; omega
            | false =>
              go_wp2_with fail
              go_roundw
              case rel => first | exact HNX.out _ _ _ (by simp) (by go_num) (Below.refl _ _) | ((repeat apply Exists.intro); exact ⟨HNX.out _ _ _ (by simp) (by go_num) (Below.refl _ _), rfl⟩)
              case measure => simp [intOf]; omega
          · have hkl : k = l.length := by omega
            subst hkl
            have hnlt : ¬ ((l.length : Int) < (l.length : Int)) := by omega
            have HBX := Lib.hid (HB.out.trans (HB1.out.mono HB.out.size))
            clear hlt hk
            have hqt : q = true := by rw [HQ.out]; exact (rightT_all l).2 HEN.out
            subst hqt
            have HOX := Lib.hid (HOX.out.below HB1.out)
            go_wp2_with fail
            refine (decodeR_yes (rowB l) l HRR.out HEN.out.1 rfl X _ kx rfl wr hkx HOX.out.rd).mono ?_
            rintro e wd ⟨vy, rfl, hoy, hby⟩
            obtain ⟨Y, ky, rfl, hky⟩ := hoy.2
            have HOY := Lib.hid hoy
            have HOX := Lib.hid (HOX.out.below hby)
            have HBX := Lib.hid (HBX.out.trans (hby.mono HBX.out.size))
            clear hoy hby
            go_wp2_with fail
            have SM := same_any l l Y A ky cap1 wd (by have := HL20.out; omega) (by have := HL20.out; omega) HOY.out.rd ((HR.out.below HBX.out (Nat.le_refl _)).more HBX.out.size)
            rw [SA.out] at SM
            refine SM.mono ?_
            clear SM
            rintro e we ⟨rfl, hbe⟩
            have HOX := Lib.hid (HOX.out.below hbe)
            have HBX := Lib.hid (HBX.out.trans (hbe.mono HBX.out.size))
            clear hbe
            go_wp2_with fail
            go_loopw [19] (fun v19 wr => RB2 we (rowB l).length v19 wr) (fun v19 _ => (rowB l).length - (intOf v19).toNat)
            case atStart => exact ⟨0, rfl, Nat.zero_le _, Below.refl _ _⟩
            case round =>
              obtain ⟨j, rfl, hj, hbz⟩ := hrel
              have HBZ := Lib.hid hbz
              clear hbz
              by_cases hjt : j < (rowB l).length
              · have hji : (j : Int) < ((rowB l).length : Int) := by omega
                have hjc : (j : Int) ≤ (kx : Int) := by omega
                have hjb : (j : Int) ≤ 4000 := by have := HEL.out; omega
                have HTK : Hid (((rowB l).take j).length = j) := Lib.hid (by rw [List.length_take]; omega)
                have DN := Lib.hid (decodeR_no ((rowB l).take j) (row_cut HRR.out HEN.out.1 hjt) X j kx HTK.out.symm _ (by rw [HTK.out]; omega) ((HOX.out.below HBZ.out).rd.take j))
                have HNX : Hid (∀ v19 wq, Below _ _ wq → v19 = .int .i64 ((j + 1 : Nat) : Int) → RB2 we (rowB l).length v19 wq) := Lib.hid fun v19 wq hb h19 => ⟨j + 1, h19, hjt, HBZ.out.trans (hb.mono HBZ.out.size)⟩
                clear hjt hj
                go_wp2_with (go_at_call 21; refine DN.out.mono ?_; rintro e wq ⟨rfl, hbq⟩; have HBQ := Lib.hid hbq; clear hbq)
                go_roundw
                case rel => first | exact HNX.out _ _ HBQ.out (by go_num) | ((repeat apply Exists.intro); exact ⟨HNX.out _ _ HBQ.out (by go_num), rfl⟩)
                case measure => simp [intOf]; omega
              · have hjl : j = (rowB l).length := by omega
                have hjn : ¬ (j : Int) < ((rowB l).length : Int) := by omega
                have HOX := Lib.hid (HOX.out.below HBZ.out)
                have HBX := Lib.hid (HBX.out.trans (HBZ.out.mono HBX.out.size))
                clear hjt hj hjl
                go_wp2_with (first
                  | (at_builtin
                     refine wpList_appB (xs := rowB l) (ys := c) (B := wr.heap.size) rfl _ _ 23 rfl Try.underlying23 hi hz0 hz1 hz2 rfl HO8.out rfl rfl ((HRC.out.below HBX.out (Nat.le_refl _)).more HBX.out.size) HM1.out H78.out ?_
                     intro v9 w9 ho9 hg9
                     obtain ⟨X9, k9, hv9, hk9⟩ := ho9.2
                     subst hv9
                     have HO9 := Lib.hid ho9
                     have HBX := Lib.hid (HBX.out.trans (hg9.toBelow HBX.out.size (fun k e => Nat.le_trans H77.out (HO8.out.ge k e))))
                     have HK9 := Lib.hid hk9
                     clear ho9 hg9 hk9)
                  | (at_builtin
                     refine wpList_appB (xs := []) (ys := rowB l) (B := wr.heap.size) rfl _ _ 23 rfl Try.underlying23 hi hz0 hz1 hz2 rfl (own_empty (Nat.le_refl _) 5) rfl rfl (HOX.out.below (alloc_below wr _)).rd HM0.out (alloc_below _ _).size ?_
                     intro v8 w8' ho8 hg8
                     have HO8 := Lib.hid ho8
                     have H77 := Lib.hid HBX.out.size
                     have H78 : Hid (wr.heap.size ≤ w8'.heap.size) := Lib.hid (Nat.le_trans (alloc_below wr _).size hg8.by_.size)
                     have HBX := Lib.hid (HBX.out.trans (((alloc_below wr _).trans (hg8.toBelow (alloc_below wr _).size (own_empty (Nat.le_refl _) 5).ge)).mono HBX.out.size))
                     clear ho8 hg8)
                  | fail)
                rcases c with _ | ⟨c0, c1⟩
                · refine (decodeR_yes (rowB l ++ []) l HRR.out HEN.out.1 (by rw [List.append_nil]) X9 _ k9 (by simp) _ HK9.out HO9.out.rd).mono ?_
                  rintro e wf ⟨vf, rfl, hof, hbf⟩
                  have HBX := Lib.hid (HBX.out.trans (hbf.mono HBX.out.size))
                  clear hof hbf
                  go_wp2_with (go_at_call 18; refine (AL.out _).mono ?_; rintro e wb ⟨rfl, hb⟩; have HBX := Lib.hid (HBX.out.trans (hb.mono HBX.out.size)); clear hb)
                  go_ret
                  exact ⟨rfl, HBX.out⟩
                · refine (decodeR_no (rowB l ++ c0 :: c1) (row_more HRR.out HEN.out.1 (by simp)) X9 _ k9 (by simp) _ HK9.out HO9.out.rd).mono ?_
                  rintro e wf ⟨rfl, hbf⟩
                  have HBX := Lib.hid (HBX.out.trans (hbf.mono HBX.out.size))
                  have hcl : ((c1.length : Int) + 1 == 0) = false := beq_false_of_ne (by omega)
                  clear hbf
                  go_wp2_with (go_at_call 18; refine (AL.out _).mono ?_; rintro e wb ⟨rfl, hb⟩; have HBX := Lib.hid (HBX.out.trans (hb.mono HBX.out.size)); clear hb)
                  go_ret
                  exact ⟨rfl, HBX.out⟩
      · have HEN := Lib.hid hen
        clear hen
        refine (encodeR_no' l A cap1 w7 HEN.out HKA.out ((HR.out.below HB.out (Nat.le_refl _)).more HB.out.size)).mono ?_
        rintro e w8 ⟨rfl, hbx⟩
        have HB := Lib.hid (HB.out.trans (hbx.mono HB.out.size))
        clear hbx
        go_wp2_with fail
        go_loopw [14, 15] (fun v14 v15 wr => RB1 w8 l v14 v15 wr) (fun _ v15 _ => l.length - (intOf v15).toNat)
        case atStart => exact ⟨0, _, rfl, rfl, Nat.zero_le _, (by rw [rightT_0]; simp; omega), Below.refl _ _⟩
        case round =>
          obtain ⟨k, q, rfl, rfl, hk, hq, hb⟩ := hrel
          have HQ := Lib.hid hq
          have HB1 := Lib.hid hb
          clear hq hb
          by_cases hlt : k < l.length
          · have hki : (k : Int) < (l.length : Int) := by omega
            have hkd : decide (k < l.length) = true := decide_eq_true hlt
            have hkb : (k : Int) ≤ 20 := by have := HL20.out; omega
            obtain ⟨x, hx⟩ : ∃ x, l[k]? = some x := ⟨_, List.getElem?_eq_getElem hlt⟩
            obtain ⟨b0, o0, hA, c0, c1, c2⟩ := (HR.out.below HB.out (Nat.le_refl _)).at_ hx (HB1.out.mono HB.out.size) (Nat.le_refl _)
            have RX := Lib.hid (right_at' x (HKA.out x (List.mem_of_getElem? hx)).2)
            obtain ⟨qx, hqx⟩ : ∃ qx, Hid (qx = rightB x) := ⟨_, Lib.hid rfl⟩
            rw [← hqx.out] at RX
            have HNX : Hid (∀ q' v15 wq, q' = (q && qx) → v15 = .int .i64 ((k + 1 : Nat) : Int) → Below wr.heap.size wr wq → RB1 w8 l (.bool q') v15 wq) := Lib.hid fun q' v15 wq hq' h15 hbq => ⟨k + 1, q', h15, rfl, hlt, by rw [hq', rightT_next hx, HQ.out, hqx.out], HB1.out.trans (hbq.mono HB1.out.size)⟩
            subst hA
            clear hx hlt hk
            cases q with
            | true =>
              go_wp2_with (go_at_call 27; refine (RX.out _).mono ?_; rintro e w9 ⟨rfl, hb9⟩; have HB9 := Lib.hid hb9; clear hb9)
              go_roundw
              case rel => first | exact HNX.out _ _ _ (by simp) (by go_num) HB9.out | ((repeat apply Exists.intro); exact ⟨HNX.out _ _ _ (by simp) (by go_num) HB9.out, rfl⟩)
              case measure => simp [intOf]; omega
            | false =>
              go_wp2_with fail
              go_roundw
              case rel => first | exact HNX.out _ _ _ (by simp) (by go_num) (Below.refl _ _) | ((repeat apply Exists.intro); exact ⟨HNX.out _ _ _ (by simp) (by go_num) (Below.refl _ _), rfl⟩)
              case measure => simp [intOf]; omega
          · have hkl : k = l.length := by omega
            subst hkl
            have hnlt : ¬ ((l.length : Int) < (l.length : Int)) := by omega
            have HBX := Lib.hid (HB.out.trans (HB1.out.mono HB.out.size))
            clear hlt hk
            have hqf : q = false := by
              cases q with
              | false => rfl
              | true => exact absurd ((rightT_all l).1 HQ.out.symm) HEN.out
            subst hqf
            go_wp2_with (go_at_call 18; refine (AL.out _).mono ?_; rintro e wb ⟨rfl, hb⟩; have HBX := Lib.hid (HBX.out.trans (hb.mono HBX.out.size)); clear hb)
            go_ret
            exact ⟨rfl, HBX.out⟩
  · have hc5 : p = false ∨ (p = true ∧ (5000 : Int) < (b.length : Int)) ∨ (p = true ∧ ¬ (5000 : Int) < (b.length : Int) ∧ (100 : Int) < (c.length : Int)) := by
      cases p <;> simp at hall ⊢
      omega
    clear hall hla hka hlb hr hrb hrc
    rcases hc5 with rfl | ⟨rfl, h5⟩ | ⟨rfl, h5, h1⟩
    all_goals
      go_enter Try.func7, Try.ntmps7
      go_wp2_with (first
        | (go_at_call 17; refine FW.out.mono ?_; rintro e w1 ⟨rfl, rfl⟩)
        | (go_at_call 18; refine (AL.out _).mono ?_; rintro e w6 ⟨rfl, hb⟩; have HB := Lib.hid hb; clear hb)
        | fail)
      go_ret
      exact ⟨rfl, HB.out⟩
end Go.Proofs.Ytnifbhcnehcgiaa
