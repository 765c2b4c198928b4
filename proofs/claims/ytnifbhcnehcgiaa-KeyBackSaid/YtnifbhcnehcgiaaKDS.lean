/- KeyBack: the law's own body answers true. -/
import Derived.Test.YtnifbhcnehcgiaaKDR
namespace Go.Proofs.Ytnifbhcnehcgiaa
open Go.RowKit

set_option maxRecDepth 100000 in
set_option maxHeartbeats 40000000 in
theorem keyBack_law (l : List Val) (b : List UInt8) (c : UInt8) (A C : Option Addr) (cap1 cap2 : Nat) (w : World) (hla : l.length ≤ maxLen) (hlb : b.length ≤ cap2) (hka : AllOk l) (hr : RdV w w.heap.size A l) (hrb : RdB w w.heap.size C b) :
    Calls Try.prog 4 #[.slice A l.length cap1, .slice C b.length cap2, .int .u8 (c.toNat : Int)] w (Ans (.bool true) w) := by
  obtain ⟨i0, hi, hz0, hz1, hz2⟩ := info_parts info8
  have HR := Lib.hid hr
  have HRB := Lib.hid hrb
  have AL := Lib.hid alive_any
  obtain ⟨p, hp⟩ : ∃ p, Hid (p = fewB l) := ⟨_, Lib.hid rfl⟩
  obtain ⟨q, hq⟩ : ∃ q, Hid (q = rightL l) := ⟨_, Lib.hid rfl⟩
  have FW := Lib.hid (few_any l A cap1 w hla hka hr)
  have RT := Lib.hid (rightL_any l A cap1 w hla hka hr)
  rw [← hp.out] at FW
  rw [← hq.out] at RT
  have HCB := Lib.hid hlb
  by_cases hall : p = true ∧ q = true ∧ b.length ≤ 2000
  · obtain ⟨rfl, rfl, hb2⟩ := hall
    obtain ⟨h16, hR⟩ := right_all hq.out.symm hka
    have HRR := Lib.hid hR
    have H16 := Lib.hid h16
    have HB2 := Lib.hid hb2
    have HKA := Lib.hid hka
    have hb2i : ¬ (2000 : Int) < (b.length : Int) := by omega
    have SA : Hid (sameL l l = true) := Lib.hid (sameL_self l)
    have HEL := Lib.hid (encL_len hR)
    clear hr hrb hla hlb hka h16 hR hb2
    go_enter Try.func4, Try.ntmps4
    go_wp2_with (first
      | (go_at_call 9; refine FW.out.mono ?_; rintro e w1 ⟨rfl, rfl⟩)
      | (go_at_call 16; refine RT.out.mono ?_; rintro e w2 ⟨rfl, hb⟩; have HB := Lib.hid hb; clear hb)
      | fail)
    refine (encode_right l A _ cap1 rfl w2 H16.out HKA.out HRR.out ((HR.out.below HB.out (Nat.le_refl _)).more HB.out.size)).mono ?_
    rintro e w3 ⟨vx, rfl, hox, hbx⟩
    obtain ⟨X, kx, rfl, hkx⟩ := hox.2
    have HOX := Lib.hid hox
    have HB := Lib.hid (HB.out.trans (hbx.mono HB.out.size))
    clear hox hbx
    go_wp2_with fail
    refine (decode_yes (encL l) l HRR.out H16.out rfl X _ kx rfl w3 hkx HOX.out.rd).mono ?_
    rintro e w4 ⟨vy, rfl, hoy, hby⟩
    obtain ⟨Y, ky, rfl, hky⟩ := hoy.2
    have HOY := Lib.hid hoy
    have HOX := Lib.hid (HOX.out.below hby)
    have HB := Lib.hid (HB.out.trans (hby.mono HB.out.size))
    clear hoy hby
    go_wp2_with fail
    have SM := same_any l l Y A ky cap1 w4 (by have := H16.out; omega) (by have := H16.out; omega) HOY.out.rd ((HR.out.below HB.out (Nat.le_refl _)).more HB.out.size)
    rw [SA.out] at SM
    refine SM.mono ?_
    clear SM
    rintro e w5 ⟨rfl, hb5⟩
    have HOX := Lib.hid (HOX.out.below hb5)
    have HB := Lib.hid (HB.out.trans (hb5.mono HB.out.size))
    clear hb5
    go_wp2_with fail
    obtain ⟨sb, hsb⟩ := ba_of b
    have HSB := Lib.hid hsb
    clear hsb
    by_cases hD : ∃ m, (∀ x ∈ m, Val.R x) ∧ m.length ≤ 16 ∧ b = encL m
    all_goals first
      | (obtain ⟨m, hmR, hm16, hbm⟩ := hD
         refine (decode_yes b m hmR hm16 hbm C _ cap2 rfl w5 HCB.out ((HRB.out.below HB.out (Nat.le_refl _)).more HB.out.size)).mono ?_
         rintro e w6 ⟨vz, rfl, hoz, hbz⟩
         obtain ⟨Z, kz, rfl, hkz⟩ := hoz.2
         have HOZ := Lib.hid hoz
         have HOX := Lib.hid (HOX.out.below hbz)
         have HB := Lib.hid (HB.out.trans (hbz.mono HB.out.size))
         have HMR := Lib.hid hmR
         have HM16 := Lib.hid hm16
         have HBM := Lib.hid hbm
         clear hoz hbz hmR hm16 hbm
         go_wp2_with fail
         refine (encode_right m Z _ kz rfl w6 HM16.out (allok_R HMR.out) HMR.out HOZ.out.rd).mono ?_
         rintro e w7 ⟨vw, rfl, how, hbw⟩
         have c1 := conv_ownS how sb (by rw [HSB.out, HBM.out])
         obtain ⟨Ww, kw, rfl, hkw⟩ := how.2
         have HOX := Lib.hid (HOX.out.below hbw)
         have HB := Lib.hid (HB.out.trans (hbw.mono HB.out.size))
         have c2 := conv_rd (cap := cap2) ((HRB.out.below HB.out (Nat.le_refl _)).more HB.out.size) rfl sb HSB.out
         clear how hbw)
      | (refine (decode_no b hD C _ cap2 rfl w5 (by have := HB2.out; omega) HCB.out ((HRB.out.below HB.out (Nat.le_refl _)).more HB.out.size)).mono ?_
         rintro e w7 ⟨rfl, hb7⟩
         have HOX := Lib.hid (HOX.out.below hb7)
         have HB := Lib.hid (HB.out.trans (hb7.mono HB.out.size))
         clear hb7 hD)
    all_goals
      clear hb2i
      have HM0 : Hid (([] : List UInt8).length + (encL l).length ≤ 1000000) := Lib.hid (by have h1 := HEL.out; have h2 := H16.out; simp; omega)
      have HM1 : Hid ((encL l).length + [c].length ≤ 1000000) := Lib.hid (by have h1 := HEL.out; have h2 := H16.out; simp; omega)
      by_cases hx0 : encL l = []
      · have hxn : ¬ 0 < (encL l).length := by rw [hx0]; simp
        clear hx0
        go_wp2_with (first
          | (at_builtin
             refine wpList_appB (xs := encL l) (ys := [c]) (B := w7.heap.size) rfl _ _ 23 rfl Try.underlying23 hi hz0 hz1 hz2 rfl (HO8.out.below (alloc_below _ _)) rfl rfl (rd_one _ _ c rfl) HM1.out (Nat.le_trans H78.out (alloc_below _ _).size) ?_
             intro v9 w9 ho9 hg9
             obtain ⟨X9, k9, hv9, hk9⟩ := ho9.2
             subst hv9
             have HO9 := Lib.hid ho9
             have HB := Lib.hid (HB.out.trans (((alloc_below w8 _).mono HB.out.size).trans (hg9.toBelow (Nat.le_trans HB.out.size (alloc_below _ _).size) (fun k e => Nat.le_trans H77.out (HO8.out.ge k e)))))
             have HK9 := Lib.hid hk9
             clear ho9 hg9 hk9)
          | (at_builtin
             refine wpList_appB (xs := []) (ys := encL l) (B := w7.heap.size) rfl _ _ 23 rfl Try.underlying23 hi hz0 hz1 hz2 rfl (own_empty (Nat.le_refl _) 5) rfl rfl (HOX.out.below (alloc_below w7 _)).rd HM0.out (alloc_below _ _).size ?_
             intro v8 w8 ho8 hg8
             have HO8 := Lib.hid ho8
             have H77 := Lib.hid HB.out.size
             have H78 : Hid (w7.heap.size ≤ w8.heap.size) := Lib.hid (Nat.le_trans (alloc_below w7 _).size hg8.by_.size)
             have HB := Lib.hid (HB.out.trans (((alloc_below w7 _).trans (hg8.toBelow (alloc_below w7 _).size (own_empty (Nat.le_refl _) 5).ge)).mono HB.out.size))
             clear ho8 hg8)
          | fail)
        by_cases hD3 : ∃ m, (∀ x ∈ m, Val.R x) ∧ m.length ≤ 16 ∧ encL l ++ [c] = encL m
        · obtain ⟨m3, hmR, hm16, hbm⟩ := hD3
          refine (decode_yes (encL l ++ [c]) m3 hmR hm16 hbm X9 _ k9 (by simp) w9 HK9.out HO9.out.rd).mono ?_
          rintro e wa ⟨va, rfl, hoa, hba⟩
          obtain ⟨Za, ka, rfl, hka⟩ := hoa.2
          have HB := Lib.hid (HB.out.trans (hba.mono HB.out.size))
          have hlm := more_vals HRR.out hmR hbm
          have hlm2 : ¬ m3.length ≤ l.length := by omega
          have hlm3 : (l.length : Int) < (m3.length : Int) := by omega
          clear hoa hba hmR hm16 hbm hka
          go_wp2_with (go_at_call 10; refine (AL.out _).mono ?_; rintro e wb ⟨rfl, hb⟩; have HB := Lib.hid (HB.out.trans (hb.mono HB.out.size)); clear hb)
          go_ret
          exact ⟨rfl, HB.out⟩
        · refine (decode_no (encL l ++ [c]) hD3 X9 _ k9 (by simp) w9 (by have h1 := HEL.out; have h2 := H16.out; rw [List.length_append, List.length_singleton]; omega) HK9.out HO9.out.rd).mono ?_
          rintro e wa ⟨rfl, hba⟩
          have HB := Lib.hid (HB.out.trans (hba.mono HB.out.size))
          clear hba hD3
          go_wp2_with (go_at_call 10; refine (AL.out _).mono ?_; rintro e wb ⟨rfl, hb⟩; have HB := Lib.hid (HB.out.trans (hb.mono HB.out.size)); clear hb)
          go_ret
          exact ⟨rfl, HB.out⟩
      · have hxn : 0 < (encL l).length := List.length_pos_iff.2 hx0
        have hxj : (1 : Int) ≤ ((encL l).length : Int) := by omega
        have HX0 := Lib.hid hx0
        have hxk : ((encL l).length : Int) ≤ 6448 := by have h1 := HEL.out; have h2 := H16.out; omega
        have hxl : ((encL l).length : Int) - 1 ≤ (kx : Int) := by omega
        have hxm : (0 : Int) ≤ ((encL l).length : Int) - 1 := by omega
        have HXN : Hid (((encL l).take ((encL l).length - 1)).length = (encL l).length - 1) := Lib.hid (by rw [List.length_take]; omega)
        have HXC : Hid (((encL l).take ((encL l).length - 1)).length ≤ kx) := Lib.hid (by rw [HXN.out]; omega)
        clear hx0
        go_wp2_with fail
        by_cases hD2 : ∃ m, (∀ x ∈ m, Val.R x) ∧ m.length ≤ 16 ∧ (encL l).take ((encL l).length - 1) = encL m
        · obtain ⟨m2, hmR, hm16, hbm⟩ := hD2
          refine (decode_yes _ m2 hmR hm16 hbm X _ kx HXN.out.symm w7 HXC.out (HOX.out.rd.take _)).mono ?_
          rintro e wq ⟨vq, rfl, hoq, hbq⟩
          obtain ⟨Zq, kq, rfl, hkq⟩ := hoq.2
          have HOX := Lib.hid (HOX.out.below hbq)
          have HB := Lib.hid (HB.out.trans (hbq.mono HB.out.size))
          have hlm := less_vals HRR.out hmR HX0.out hbm
          have hlm2 : ¬ l.length ≤ m2.length := by omega
          have hlm3 : (m2.length : Int) < (l.length : Int) := by omega
          clear hoq hbq hmR hm16 hbm hkq hlm
          go_wp2_with (first
            | (at_builtin
               refine wpList_appB (xs := encL l) (ys := [c]) (B := wq.heap.size) rfl _ _ 23 rfl Try.underlying23 hi hz0 hz1 hz2 rfl (HO8.out.below (alloc_below _ _)) rfl rfl (rd_one _ _ c rfl) HM1.out (Nat.le_trans H78.out (alloc_below _ _).size) ?_
               intro v9 w9 ho9 hg9
               obtain ⟨X9, k9, hv9, hk9⟩ := ho9.2
               subst hv9
               have HO9 := Lib.hid ho9
               have HB := Lib.hid (HB.out.trans (((alloc_below w8 _).mono HB.out.size).trans (hg9.toBelow (Nat.le_trans HB.out.size (alloc_below _ _).size) (fun k e => Nat.le_trans H77.out (HO8.out.ge k e)))))
               have HK9 := Lib.hid hk9
               clear ho9 hg9 hk9)
            | (at_builtin
               refine wpList_appB (xs := []) (ys := encL l) (B := wq.heap.size) rfl _ _ 23 rfl Try.underlying23 hi hz0 hz1 hz2 rfl (own_empty (Nat.le_refl _) 5) rfl rfl (HOX.out.below (alloc_below wq _)).rd HM0.out (alloc_below _ _).size ?_
               intro v8 w8 ho8 hg8
               have HO8 := Lib.hid ho8
               have H77 := Lib.hid HB.out.size
               have H78 : Hid (wq.heap.size ≤ w8.heap.size) := Lib.hid (Nat.le_trans (alloc_below wq _).size hg8.by_.size)
               have HB := Lib.hid (HB.out.trans (((alloc_below wq _).trans (hg8.toBelow (alloc_below wq _).size (own_empty (Nat.le_refl _) 5).ge)).mono HB.out.size))
               clear ho8 hg8)
            | fail)
          by_cases hD3 : ∃ m, (∀ x ∈ m, Val.R x) ∧ m.length ≤ 16 ∧ encL l ++ [c] = encL m
          · obtain ⟨m3, hmR, hm16, hbm⟩ := hD3
            refine (decode_yes (encL l ++ [c]) m3 hmR hm16 hbm X9 _ k9 (by simp) w9 HK9.out HO9.out.rd).mono ?_
            rintro e wa ⟨va, rfl, hoa, hba⟩
            obtain ⟨Za, ka, rfl, hka⟩ := hoa.2
            have HB := Lib.hid (HB.out.trans (hba.mono HB.out.size))
            have hlm := more_vals HRR.out hmR hbm
            have hlm2 : ¬ m3.length ≤ l.length := by omega
            have hlm3 : (l.length : Int) < (m3.length : Int) := by omega
            clear hoa hba hmR hm16 hbm hka
            go_wp2_with (go_at_call 10; refine (AL.out _).mono ?_; rintro e wb ⟨rfl, hb⟩; have HB := Lib.hid (HB.out.trans (hb.mono HB.out.size)); clear hb)
            go_ret
            exact ⟨rfl, HB.out⟩
          · refine (decode_no (encL l ++ [c]) hD3 X9 _ k9 (by simp) w9 (by have h1 := HEL.out; have h2 := H16.out; rw [List.length_append, List.length_singleton]; omega) HK9.out HO9.out.rd).mono ?_
            rintro e wa ⟨rfl, hba⟩
            have HB := Lib.hid (HB.out.trans (hba.mono HB.out.size))
            clear hba hD3
            go_wp2_with (go_at_call 10; refine (AL.out _).mono ?_; rintro e wb ⟨rfl, hb⟩; have HB := Lib.hid (HB.out.trans (hb.mono HB.out.size)); clear hb)
            go_ret
            exact ⟨rfl, HB.out⟩
        · refine (decode_no _ hD2 X _ kx HXN.out.symm w7 (by rw [HXN.out]; have h1 := HEL.out; have h2 := H16.out; omega) HXC.out (HOX.out.rd.take _)).mono ?_
          rintro e wq ⟨rfl, hbq⟩
          have HOX := Lib.hid (HOX.out.below hbq)
          have HB := Lib.hid (HB.out.trans (hbq.mono HB.out.size))
          clear hbq hD2
          go_wp2_with (first
            | (at_builtin
               refine wpList_appB (xs := encL l) (ys := [c]) (B := wq.heap.size) rfl _ _ 23 rfl Try.underlying23 hi hz0 hz1 hz2 rfl (HO8.out.below (alloc_below _ _)) rfl rfl (rd_one _ _ c rfl) HM1.out (Nat.le_trans H78.out (alloc_below _ _).size) ?_
               intro v9 w9 ho9 hg9
               obtain ⟨X9, k9, hv9, hk9⟩ := ho9.2
               subst hv9
               have HO9 := Lib.hid ho9
               have HB := Lib.hid (HB.out.trans (((alloc_below w8 _).mono HB.out.size).trans (hg9.toBelow (Nat.le_trans HB.out.size (alloc_below _ _).size) (fun k e => Nat.le_trans H77.out (HO8.out.ge k e)))))
               have HK9 := Lib.hid hk9
               clear ho9 hg9 hk9)
            | (at_builtin
               refine wpList_appB (xs := []) (ys := encL l) (B := wq.heap.size) rfl _ _ 23 rfl Try.underlying23 hi hz0 hz1 hz2 rfl (own_empty (Nat.le_refl _) 5) rfl rfl (HOX.out.below (alloc_below wq _)).rd HM0.out (alloc_below _ _).size ?_
               intro v8 w8 ho8 hg8
               have HO8 := Lib.hid ho8
               have H77 := Lib.hid HB.out.size
               have H78 : Hid (wq.heap.size ≤ w8.heap.size) := Lib.hid (Nat.le_trans (alloc_below wq _).size hg8.by_.size)
               have HB := Lib.hid (HB.out.trans (((alloc_below wq _).trans (hg8.toBelow (alloc_below wq _).size (own_empty (Nat.le_refl _) 5).ge)).mono HB.out.size))
               clear ho8 hg8)
            | fail)
          by_cases hD3 : ∃ m, (∀ x ∈ m, Val.R x) ∧ m.length ≤ 16 ∧ encL l ++ [c] = encL m
          · obtain ⟨m3, hmR, hm16, hbm⟩ := hD3
            refine (decode_yes (encL l ++ [c]) m3 hmR hm16 hbm X9 _ k9 (by simp) w9 HK9.out HO9.out.rd).mono ?_
            rintro e wa ⟨va, rfl, hoa, hba⟩
            obtain ⟨Za, ka, rfl, hka⟩ := hoa.2
            have HB := Lib.hid (HB.out.trans (hba.mono HB.out.size))
            have hlm := more_vals HRR.out hmR hbm
            have hlm2 : ¬ m3.length ≤ l.length := by omega
            have hlm3 : (l.length : Int) < (m3.length : Int) := by omega
            clear hoa hba hmR hm16 hbm hka
            go_wp2_with (go_at_call 10; refine (AL.out _).mono ?_; rintro e wb ⟨rfl, hb⟩; have HB := Lib.hid (HB.out.trans (hb.mono HB.out.size)); clear hb)
            go_ret
            exact ⟨rfl, HB.out⟩
          · refine (decode_no (encL l ++ [c]) hD3 X9 _ k9 (by simp) w9 (by have h1 := HEL.out; have h2 := H16.out; rw [List.length_append, List.length_singleton]; omega) HK9.out HO9.out.rd).mono ?_
            rintro e wa ⟨rfl, hba⟩
            have HB := Lib.hid (HB.out.trans (hba.mono HB.out.size))
            clear hba hD3
            go_wp2_with (go_at_call 10; refine (AL.out _).mono ?_; rintro e wb ⟨rfl, hb⟩; have HB := Lib.hid (HB.out.trans (hb.mono HB.out.size)); clear hb)
            go_ret
            exact ⟨rfl, HB.out⟩
  · have hc5 : p = false ∨ (p = true ∧ q = false) ∨ (p = true ∧ q = true ∧ (2000 : Int) < (b.length : Int)) := by
      cases p <;> cases q <;> simp at hall ⊢
      omega
    clear hall hla hka hlb hr hrb
    rcases hc5 with rfl | ⟨rfl, rfl⟩ | ⟨rfl, rfl, h20⟩
    all_goals
      go_enter Try.func4, Try.ntmps4
      go_wp2_with (first
        | (go_at_call 9; refine FW.out.mono ?_; rintro e w1 ⟨rfl, rfl⟩)
        | (go_at_call 16; refine RT.out.mono ?_; rintro e w2 ⟨rfl, hb⟩; have HB := Lib.hid hb; clear hb)
        | (go_at_call 10; refine (AL.out _).mono ?_; rintro e w6 ⟨rfl, hb⟩; have HB := Lib.hid (HB.out.trans (hb.mono HB.out.size)); clear hb)
        | fail)
      go_ret
      exact ⟨rfl, HB.out⟩
end Go.Proofs.Ytnifbhcnehcgiaa
