/- KeyBegins: the law's own body answers true. -/
import Derived.Test.YtaokblhflhlhiaaKP
import Derived.Test.YtaokblhflhlhiaaKK
namespace Go.Proofs.Ytaokblhflhlhiaa
open Go.RowKit
attribute [local go_sem ↓] eqV

theorem decide_len {m k : Nat} (b : Bool) (h : decide (m ≤ k) = b) : decide (m ≤ k) = b := h
set_option maxRecDepth 100000 in
set_option maxHeartbeats 40000000 in
theorem keyBegins_law (l o : List Val) (n : Int) (A C : Option Addr) (cap1 cap2 : Nat) (w : World) (hla : l.length ≤ maxLen) (hlb : o.length ≤ maxLen) (hlc : l.length ≤ cap1) (hka : AllOk l) (hkb : AllOk o) (hr : RdV w w.heap.size A l) (hs : RdV w w.heap.size C o) :
    Calls Try.prog 6 #[.slice A l.length cap1, .int .i64 n, .slice C o.length cap2] w (Ans (.bool true) w) := by
  have AL := Lib.hid alive_any
  have FA := Lib.hid (few_any l A cap1 w hla hka hr)
  have FB := Lib.hid (fun w' (hw : Below w.heap.size w w') => few_any o C cap2 w' hlb hkb ((hs.below hw (Nat.le_refl _)).more hw.size))
  have RA := Lib.hid (fun w' (hw : Below w.heap.size w w') => rightL_any l A cap1 w' hla hka ((hr.below hw (Nat.le_refl _)).more hw.size))
  have RB := Lib.hid (fun w' (hw : Below w.heap.size w w') => rightL_any o C cap2 w' hlb hkb ((hs.below hw (Nat.le_refl _)).more hw.size))
  have BF := Lib.hid (Below.refl w.heap.size w)
  by_cases hall : fewB l = true ∧ rightL l = true ∧ fewB o = true ∧ rightL o = true ∧ 0 ≤ n ∧ n ≤ (l.length : Int)
  · obtain ⟨p, q, r, s, hn0, hnl⟩ := hall
    obtain ⟨m, rfl⟩ : ∃ m : Nat, n = (m : Int) := ⟨n.toNat, by omega⟩
    obtain ⟨a16, aR⟩ := right_all q hka
    obtain ⟨b16, bR⟩ := right_all s hkb
    rw [p] at FA
    rw [r] at FB
    rw [q] at RA
    rw [s] at RB
    have hml : m ≤ l.length := by omega
    have hmc : m ≤ cap1 := by omega
    have tR : ∀ x ∈ l.take m, x.R := fun x hx => aR x (List.mem_of_mem_take hx)
    have tlen : (l.take m).length = m := by rw [List.length_take]; omega
    have EA := Lib.hid (fun w' (hw : Below w.heap.size w w') => encode_right l A l.length cap1 rfl w' a16 hka aR ((hr.below hw (Nat.le_refl _)).more hw.size))
    have ET := Lib.hid (fun w' (hw : Below w.heap.size w w') => encode_right (l.take m) A m cap1 tlen.symm w' (by omega) (fun x hx => hka x (List.mem_of_mem_take hx)) tR (((hr.below hw (Nat.le_refl _)).more hw.size).take m))
    have EB := Lib.hid (fun w' (hw : Below w.heap.size w w') => encode_right o C o.length cap2 rfl w' b16 hkb bR ((hs.below hw (Nat.le_refl _)).more hw.size))
    have HPX : Hid ((encL l).take (encL (l.take m)).length = encL (l.take m) ∧ (encL (l.take m)).length ≤ (encL l).length) := Lib.hid (by
      have h := (encL_prefix tR aR).2 (List.take_prefix m l)
      exact ⟨(prefix_take.1 h).2, h.length_le⟩)
    have HIN : Hid (∀ r, nextL (encL (l.take m)) = some r → ((0 ≤ cmpB (encL o) (encL (l.take m)) ∧ cmpB (encL o) r < 0) ↔ l.take m <+: o)) := Lib.hid fun r hr => begins_in tR bR hr
    have HNX : Hid (l.take m ≠ [] → ∃ r, nextL (encL (l.take m)) = some r) := Lib.hid fun h => next_enc tR h
    have HLE : Hid ((encL (l.take m)).length ≤ 100000) := Lib.hid (by have := encL_len tR; omega)
    have HM0 : Hid (m = 0 → encL (l.take m) = []) := Lib.hid fun h => by subst h; simp [encL]
    have HM1 : Hid (0 < m → l.take m ≠ []) := Lib.hid fun h e => by rw [e] at tlen; simp at tlen; omega
    have HS := Lib.hid (fun wz => BGL.start (l := l) (o := o) (n := m) (w := wz) _ rfl hml)
    have HRL := Lib.hid hr
    have HRO := Lib.hid hs
    have HML := Lib.hid hml
    obtain ⟨lx, hlx⟩ : ∃ lx, Hid (lx = encL l) := ⟨_, Lib.hid rfl⟩
    obtain ⟨lm, hlm⟩ : ∃ lm, Hid (lm = encL (l.take m)) := ⟨_, Lib.hid rfl⟩
    obtain ⟨lo, hlo⟩ : ∃ lo, Hid (lo = encL o) := ⟨_, Lib.hid rfl⟩
    rw [← hlx.out, ← hlm.out] at HPX
    rw [← hlm.out] at HNX HLE HM0
    rw [← hlm.out, ← hlo.out] at HIN
    have HXL : Hid (∀ w e w', EncTo w l e w' → ∃ v, e = .returned (.tuple #[v, .int .i64 0]) ∧ OwnB w' w.heap.size v lx ∧ Below w.heap.size w w') := Lib.hid fun w e w' h => by rw [hlx.out]; exact h
    have HXM : Hid (∀ w e w', EncTo w (l.take m) e w' → ∃ v, e = .returned (.tuple #[v, .int .i64 0]) ∧ OwnB w' w.heap.size v lm ∧ Below w.heap.size w w') := Lib.hid fun w e w' h => by rw [hlm.out]; exact h
    have HXO : Hid (∀ w e w', EncTo w o e w' → ∃ v, e = .returned (.tuple #[v, .int .i64 0]) ∧ OwnB w' w.heap.size v lo ∧ Below w.heap.size w w') := Lib.hid fun w e w' h => by rw [hlo.out]; exact h
    obtain ⟨sm, hsm⟩ := ba_of lm
    obtain ⟨so, hso⟩ := ba_of lo
    have HSM := Lib.hid hsm
    have HSO := Lib.hid hso
    have hli : (l.length : Int) ≤ 16 := by omega
    clear hla hlb hlc hka hkb hr hs p q r s hnl hn0 a16 b16 aR bR tR tlen hml hsm hso
    have hgt : decide (l.length < m) = false := decide_eq_false (by have := HML.out; omega)
    have hgti : ¬ (l.length : Int) < (m : Int) := by have := HML.out; omega
    have hneg : ¬ (m : Int) < 0 := by omega
    have hlen1 : decide (lx.length < lm.length) = false := decide_eq_false (by have := HPX.out.2; omega)
    go_enter Try.func6, Try.ntmps6
    go_wp2_with (first
      | (go_at_call 9; first | ((with_reducible refine FA.out.mono ?_); rintro e w2 ⟨rfl, rfl⟩) | ((with_reducible refine (FB.out _ BF.out).mono ?_); rintro e w2 ⟨rfl, rfl⟩))
      | (go_at_call 16; first | ((with_reducible refine (RA.out _ BF.out).mono ?_); rintro e w2 ⟨rfl, hb2⟩; have BF := Lib.hid (BF.out.trans (hb2.mono BF.out.size)); clear hb2) | ((with_reducible refine (RB.out _ BF.out).mono ?_); rintro e w2 ⟨rfl, hb2⟩; have BF := Lib.hid (BF.out.trans (hb2.mono BF.out.size)); clear hb2))
      | (go_at_call 11
         first
           | ((with_reducible refine (EA.out _ BF.out).mono ?_)
              rintro e w2 he
              obtain ⟨v2, rfl, ho, hb2⟩ := HXL.out _ _ _ he
              obtain ⟨X2, k2, hv2, hk2⟩ := ho.2
              subst hv2
              have BF := Lib.hid (BF.out.trans (hb2.mono BF.out.size))
              have HO2 := Lib.hid ho
              clear hb2 ho he)
           | ((with_reducible refine (EB.out _ BF.out).mono ?_)
              rintro e w4 he
              obtain ⟨v4, rfl, ho, hb2⟩ := HXO.out _ _ _ he
              obtain ⟨X4, k4, hv4, hk4⟩ := ho.2
              subst hv4
              have BF := Lib.hid (BF.out.trans (hb2.mono BF.out.size))
              have HO2 := Lib.hid (HO2.out.below hb2)
              have HO3 := Lib.hid (HO3.out.below hb2)
              have HO4 := Lib.hid ho
              clear hb2 ho he)
           | ((with_reducible refine (ET.out _ BF.out).mono ?_)
              rintro e w3 he
              obtain ⟨v3, rfl, ho, hb2⟩ := HXM.out _ _ _ he
              obtain ⟨X3, k3, hv3, hk3⟩ := ho.2
              subst hv3
              have BF := Lib.hid (BF.out.trans (hb2.mono BF.out.size))
              have HO2 := Lib.hid (HO2.out.below hb2)
              have HO3 := Lib.hid ho
              clear hb2 ho he)))
    have hlk : lm.length ≤ k2 := by have := HPX.out.2; omega
    have c1 := fun q => conv_rd (cap := k2) ((HO2.out.below (drewN_below w4 q)).rd.take lm.length) (n := lm.length) (by rw [List.length_take]; have := HPX.out.2; omega) sm (by rw [HSM.out, HPX.out.1])
    have c2 := fun q => conv_rd (cap := k3) (HO3.out.below (drewN_below w4 q)).rd rfl sm HSM.out
    go_quiet (fail)
    clear c1 c2 hlk hlen1
    have BF := Lib.hid (BF.out.trans ((drewN_below w4 nq).mono BF.out.size))
    have HO3 := Lib.hid (HO3.out.below (drewN_below w4 nq))
    have HO4 := Lib.hid (HO4.out.below (drewN_below w4 nq))
    generalize w4.drewN nq = w5 at *
    cases hd : decide (m ≤ o.length)
    all_goals
      have HD := Lib.hid hd
      go_wp2_with fail
      go_loopw [17, 18] (fun v17 v18 wr => BGL l o m w5 v17 v18 wr) (fun _ v18 _ => m - (intOf v18).toNat)
      case atStart => have h := HS.out w5; rw [HD.out] at h; exact h
      case round =>
        clear hd
        obtain ⟨k, b, rfl, rfl, hk, hb, hyes, hno⟩ := hrel
        have HB := Lib.hid hb
        clear hb
        cases b with
        | true =>
          obtain ⟨hmo, hpre⟩ := hyes rfl
          clear hyes hno
          by_cases hkm : k < m
          · have hki : (k : Int) < (m : Int) := by omega
            have hkj : decide (k < m) = true := decide_eq_true hkm
            obtain ⟨x, hx⟩ : ∃ x, o[k]? = some x := ⟨_, List.getElem?_eq_getElem (by omega)⟩
            obtain ⟨y, hy⟩ : ∃ y, l[k]? = some y := ⟨_, List.getElem?_eq_getElem (by have := HML.out; omega)⟩
            have HBW := Lib.hid (BF.out.trans (HB.out.mono BF.out.size))
            obtain ⟨b1, o1, hC, d0, d1, d2⟩ := HRO.out.at_ hx HBW.out (Nat.le_refl _)
            obtain ⟨b0, o0, hA, c0, c1, c2⟩ := HRL.out.at_ hy HBW.out (Nat.le_refl _)
            subst hA hC
            have hko : (k : Int) < (o.length : Int) := by omega
            have hkl : (k : Int) < (l.length : Int) := by have := HML.out; omega
            have ST := Lib.hid (begins_step hkm hx hy hmo hpre)
            by_cases hxy : x = y
            · have he := eqB_yes hxy
              have HN : Hid (∀ v18 wz, v18 = .int .i64 ((k + 1 : Nat) : Int) → Below wr.heap.size wr wz → BGL l o m w5 (.bool true) v18 wz) := Lib.hid fun v18 wz h18 hbz => ⟨k + 1, true, h18, rfl, hkm, HB.out.trans (hbz.mono HB.out.size), fun _ => ST.out.1 hxy, (fun h => by cases h)⟩
              clear hxy hx hy hmo hpre hk
              go_wp2_with fail
              go_quiet (fail)
              go_wp2_with fail
              go_roundw
              case rel => exact HN.out _ _ (by go_num) (drewN_below wr nq)
              case measure => simp [intOf]; omega
            · have he := eqB_no hxy
              have HN : Hid (∀ v18 wz, v18 = .int .i64 ((k + 1 : Nat) : Int) → Below wr.heap.size wr wz → BGL l o m w5 (.bool false) v18 wz) := Lib.hid fun v18 wz h18 hbz => ⟨k + 1, false, h18, rfl, hkm, HB.out.trans (hbz.mono HB.out.size), (fun h => by cases h), fun _ => ST.out.2 hxy⟩
              clear hxy hx hy hmo hpre hk
              go_wp2_with fail
              go_quiet (fail)
              go_wp2_with fail
              go_roundw
              case rel => exact HN.out _ _ (by go_num) (drewN_below wr nq)
              case measure => simp [intOf]; omega
          · have hp : l.take m <+: o := by
              have hkm2 : k = m := by omega
              rw [hkm2] at hpre
              rw [← hpre]
              exact List.take_prefix m o
            have hkj : decide (k < m) = false := decide_eq_false hkm
            have hki : ¬ (k : Int) < (m : Int) := by omega
            clear hkm hmo hpre
            rcases Nat.eq_zero_or_pos m with hm0 | hm0
            · have HE : Hid (lm = []) := Lib.hid (HM0.out hm0)
              have HO5 := Lib.hid (HO3.out.below HB.out)
              have hz : ((m : Int) == 0) = true := by rw [hm0]; rfl
              have hl0 : ((lm.length : Int) == 0) = true := by rw [HE.out]; rfl
              have hm := Lib.hid hm0
              have HC := Lib.hid (And.intro hz hl0)
              clear hm0 hl0 hk
              go_wp2_with (first
                | (go_at_call 10
                   refine (AL.out _).mono ?_
                   rintro e w6 ⟨rfl, hb2⟩
                   have BF := Lib.hid (BF.out.trans ((HB.out.trans (hb2.mono HB.out.size)).mono BF.out.size))
                   have HO6 := Lib.hid (HO5.out.below hb2)
                   have hl0 := HC.out.2
                   clear hb2)
                | (go_at_call 18
                   refine ((next_any lm X3 k3 _ HLE.out HO6.out.rd hk3).mono fun e w7 h => nextTo_own h).mono ?_
                   rintro e w7 ⟨v7, rfl, ho7, hb7⟩
                   rw [HE.out] at ho7
                   obtain ⟨X7, k7, hv7, _⟩ := ho7.2
                   subst hv7
                   have BF := Lib.hid (BF.out.trans (hb7.mono BF.out.size))
                   clear ho7 hb7))
              go_ret
              exact ⟨rfl, BF.out⟩
            · have hz : ((m : Int) == 0) = false := beq_false_of_ne (by omega)
              obtain ⟨r, hr⟩ := HNX.out (HM1.out hm0)
              have HINr := Lib.hid (HIN.out r hr)
              have HR : Hid (nextL lm = some r) := Lib.hid hr
              have HO5 := Lib.hid (HO3.out.below HB.out)
              have HO6 := Lib.hid (HO4.out.below HB.out)
              have h2 := HINr.out.2 hp
              have l1 : Op.bytesLess so.toList sm.toList = false := less_of (by rw [HSO.out, HSM.out]; exact decide_eq_false (by omega))
              have l2 : Op.bytesLess so.toList r = true := less_ofL (by rw [HSO.out]; exact decide_eq_true h2.2)
              have LL := Lib.hid (And.intro l1 l2)
              clear l1 l2 h2 hp
              clear hm0 hr hk
              go_wp2_with (first
                | (go_at_call 18
                   refine ((next_any lm X3 k3 _ HLE.out HO5.out.rd hk3).mono fun e w7 h => nextTo_own h).mono ?_
                   rintro e w7 ⟨v7, rfl, ho7, hb7⟩
                   rw [HR.out, Option.getD_some] at ho7
                   have BF := Lib.hid (BF.out.trans ((HB.out.trans (hb7.mono HB.out.size)).mono BF.out.size))
                   have c3 := conv_rd (cap := k3) (HO5.out.below hb7).rd rfl sm HSM.out
                   have c4 := conv_rd (cap := k4) (HO6.out.below hb7).rd rfl so HSO.out
                   have c7 := conv_own ho7
                   obtain ⟨l1, l2⟩ := LL.out
                   clear hb7 ho7)
                | (go_at_call 10
                   refine (AL.out _).mono ?_
                   rintro e w8 ⟨rfl, hb8⟩
                   have BF := Lib.hid (BF.out.trans (hb8.mono BF.out.size))
                   clear hb8))
              go_ret
              exact ⟨rfl, BF.out⟩
        | false =>
          have hp := hno rfl
          clear hyes hno
          rcases Nat.lt_or_ge k m with hkm | hkm
          · have hkj : decide (k < m) = true := decide_eq_true hkm
            have hki : (k : Int) < (m : Int) := by omega
            clear hkm
            rcases Nat.eq_zero_or_pos m with hm0 | hm0
            · exact absurd (by rw [hm0, List.take_zero]; exact List.nil_prefix) hp
            · have hz : ((m : Int) == 0) = false := beq_false_of_ne (by omega)
              obtain ⟨r, hr⟩ := HNX.out (HM1.out hm0)
              have HINr := Lib.hid (HIN.out r hr)
              have HR : Hid (nextL lm = some r) := Lib.hid hr
              have HO5 := Lib.hid (HO3.out.below HB.out)
              have HO6 := Lib.hid (HO4.out.below HB.out)
              have h2 : ¬ (0 ≤ cmpB lo lm ∧ cmpB lo r < 0) := fun h => hp (HINr.out.1 h)
              have h3 : Op.bytesLess so.toList sm.toList = true ∨ (Op.bytesLess so.toList sm.toList = false ∧ Op.bytesLess so.toList r = false) := by
                by_cases h4 : 0 ≤ cmpB lo lm
                · exact .inr ⟨less_of (by rw [HSO.out, HSM.out]; exact decide_eq_false (by omega)), less_ofL (by rw [HSO.out]; exact decide_eq_false fun h5 => h2 ⟨h4, h5⟩)⟩
                · exact .inl (less_of (by rw [HSO.out, HSM.out]; exact decide_eq_true (by omega)))
              clear h2 hp hm0 hr hk
              rcases h3 with l1 | ⟨l1, l2⟩
              · have LL := Lib.hid (And.intro l1 trivial)
                clear l1
                skip
                go_wp2_with (first
                  | (go_at_call 18
                     refine ((next_any lm X3 k3 _ HLE.out HO5.out.rd hk3).mono fun e w7 h => nextTo_own h).mono ?_
                     rintro e w7 ⟨v7, rfl, ho7, hb7⟩
                     rw [HR.out, Option.getD_some] at ho7
                     have BF := Lib.hid (BF.out.trans ((HB.out.trans (hb7.mono HB.out.size)).mono BF.out.size))
                     have c3 := conv_rd (cap := k3) (HO5.out.below hb7).rd rfl sm HSM.out
                     have c4 := conv_rd (cap := k4) (HO6.out.below hb7).rd rfl so HSO.out
                     have c7 := conv_own ho7
                     obtain ⟨l1, l2⟩ := LL.out
                     clear hb7 ho7)
                  | (go_at_call 10
                     refine (AL.out _).mono ?_
                     rintro e w8 ⟨rfl, hb8⟩
                     have BF := Lib.hid (BF.out.trans (hb8.mono BF.out.size))
                     clear hb8))
                go_ret
                exact ⟨rfl, BF.out⟩
              · have LL := Lib.hid (And.intro l1 l2)
                clear l1 l2
                skip
                go_wp2_with (first
                  | (go_at_call 18
                     refine ((next_any lm X3 k3 _ HLE.out HO5.out.rd hk3).mono fun e w7 h => nextTo_own h).mono ?_
                     rintro e w7 ⟨v7, rfl, ho7, hb7⟩
                     rw [HR.out, Option.getD_some] at ho7
                     have BF := Lib.hid (BF.out.trans ((HB.out.trans (hb7.mono HB.out.size)).mono BF.out.size))
                     have c3 := conv_rd (cap := k3) (HO5.out.below hb7).rd rfl sm HSM.out
                     have c4 := conv_rd (cap := k4) (HO6.out.below hb7).rd rfl so HSO.out
                     have c7 := conv_own ho7
                     obtain ⟨l1, l2⟩ := LL.out
                     clear hb7 ho7)
                  | (go_at_call 10
                     refine (AL.out _).mono ?_
                     rintro e w8 ⟨rfl, hb8⟩
                     have BF := Lib.hid (BF.out.trans (hb8.mono BF.out.size))
                     clear hb8))
                go_ret
                exact ⟨rfl, BF.out⟩
          · have hkj : decide (k < m) = false := decide_eq_false (by omega)
            have hki : ¬ (k : Int) < (m : Int) := by omega
            clear hkm
            rcases Nat.eq_zero_or_pos m with hm0 | hm0
            · exact absurd (by rw [hm0, List.take_zero]; exact List.nil_prefix) hp
            · have hz : ((m : Int) == 0) = false := beq_false_of_ne (by omega)
              obtain ⟨r, hr⟩ := HNX.out (HM1.out hm0)
              have HINr := Lib.hid (HIN.out r hr)
              have HR : Hid (nextL lm = some r) := Lib.hid hr
              have HO5 := Lib.hid (HO3.out.below HB.out)
              have HO6 := Lib.hid (HO4.out.below HB.out)
              have h2 : ¬ (0 ≤ cmpB lo lm ∧ cmpB lo r < 0) := fun h => hp (HINr.out.1 h)
              have h3 : Op.bytesLess so.toList sm.toList = true ∨ (Op.bytesLess so.toList sm.toList = false ∧ Op.bytesLess so.toList r = false) := by
                by_cases h4 : 0 ≤ cmpB lo lm
                · exact .inr ⟨less_of (by rw [HSO.out, HSM.out]; exact decide_eq_false (by omega)), less_ofL (by rw [HSO.out]; exact decide_eq_false fun h5 => h2 ⟨h4, h5⟩)⟩
                · exact .inl (less_of (by rw [HSO.out, HSM.out]; exact decide_eq_true (by omega)))
              clear h2 hp hm0 hr hk
              rcases h3 with l1 | ⟨l1, l2⟩
              · have LL := Lib.hid (And.intro l1 trivial)
                clear l1
                skip
                go_wp2_with (first
                  | (go_at_call 18
                     refine ((next_any lm X3 k3 _ HLE.out HO5.out.rd hk3).mono fun e w7 h => nextTo_own h).mono ?_
                     rintro e w7 ⟨v7, rfl, ho7, hb7⟩
                     rw [HR.out, Option.getD_some] at ho7
                     have BF := Lib.hid (BF.out.trans ((HB.out.trans (hb7.mono HB.out.size)).mono BF.out.size))
                     have c3 := conv_rd (cap := k3) (HO5.out.below hb7).rd rfl sm HSM.out
                     have c4 := conv_rd (cap := k4) (HO6.out.below hb7).rd rfl so HSO.out
                     have c7 := conv_own ho7
                     obtain ⟨l1, l2⟩ := LL.out
                     clear hb7 ho7)
                  | (go_at_call 10
                     refine (AL.out _).mono ?_
                     rintro e w8 ⟨rfl, hb8⟩
                     have BF := Lib.hid (BF.out.trans (hb8.mono BF.out.size))
                     clear hb8))
                go_ret
                exact ⟨rfl, BF.out⟩
              · have LL := Lib.hid (And.intro l1 l2)
                clear l1 l2
                skip
                go_wp2_with (first
                  | (go_at_call 18
                     refine ((next_any lm X3 k3 _ HLE.out HO5.out.rd hk3).mono fun e w7 h => nextTo_own h).mono ?_
                     rintro e w7 ⟨v7, rfl, ho7, hb7⟩
                     rw [HR.out, Option.getD_some] at ho7
                     have BF := Lib.hid (BF.out.trans ((HB.out.trans (hb7.mono HB.out.size)).mono BF.out.size))
                     have c3 := conv_rd (cap := k3) (HO5.out.below hb7).rd rfl sm HSM.out
                     have c4 := conv_rd (cap := k4) (HO6.out.below hb7).rd rfl so HSO.out
                     have c7 := conv_own ho7
                     obtain ⟨l1, l2⟩ := LL.out
                     clear hb7 ho7)
                  | (go_at_call 10
                     refine (AL.out _).mono ?_
                     rintro e w8 ⟨rfl, hb8⟩
                     have BF := Lib.hid (BF.out.trans (hb8.mono BF.out.size))
                     clear hb8))
                go_ret
                exact ⟨rfl, BF.out⟩
  · clear hla hlb hlc hka hkb hr hs
    generalize fewB l = p at *
    generalize fewB o = r at *
    generalize rightL l = q at *
    generalize rightL o = s at *
    have hcase : (p = false) ∨ (p = true ∧ q = false) ∨ (p = true ∧ q = true ∧ r = false) ∨ (p = true ∧ q = true ∧ r = true ∧ s = false) ∨ (p = true ∧ q = true ∧ r = true ∧ s = true ∧ n < 0) ∨ (p = true ∧ q = true ∧ r = true ∧ s = true ∧ ¬ n < 0 ∧ (l.length : Int) < n) := by
      cases p <;> cases q <;> cases r <;> cases s <;> simp at hall ⊢
      by_cases h0 : n < 0
      · exact .inl h0
      · exact .inr ⟨by omega, by have := hall (by omega); omega⟩
    clear hall
    rcases hcase with rfl | ⟨rfl, rfl⟩ | ⟨rfl, rfl, rfl⟩ | ⟨rfl, rfl, rfl, rfl⟩ | ⟨rfl, rfl, rfl, rfl, hn⟩ | ⟨rfl, rfl, rfl, rfl, hn, hn2⟩
    all_goals
      go_enter Try.func6, Try.ntmps6
      go_wp2_with (first
        | (go_at_call 9; first | ((with_reducible refine FA.out.mono ?_); rintro e w2 ⟨rfl, rfl⟩) | ((with_reducible refine (FB.out _ BF.out).mono ?_); rintro e w2 ⟨rfl, rfl⟩))
        | (go_at_call 16; first | ((with_reducible refine (RA.out _ BF.out).mono ?_); rintro e w2 ⟨rfl, hb2⟩; have BF := Lib.hid (BF.out.trans (hb2.mono BF.out.size)); clear hb2) | ((with_reducible refine (RB.out _ BF.out).mono ?_); rintro e w2 ⟨rfl, hb2⟩; have BF := Lib.hid (BF.out.trans (hb2.mono BF.out.size)); clear hb2))
        | (go_at_call 10; refine (AL.out _).mono ?_; rintro e w2 ⟨rfl, hb2⟩; have BF := Lib.hid (BF.out.trans (hb2.mono BF.out.size)); clear hb2))
      go_ret
      exact ⟨rfl, BF.out⟩
end Go.Proofs.Ytaokblhflhlhiaa
