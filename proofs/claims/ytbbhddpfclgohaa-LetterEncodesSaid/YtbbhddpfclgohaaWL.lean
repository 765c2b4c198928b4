/- The document's Long. -/
import Derived.Test.YtbbhddpfclgohaaWK
import Derived.Test.YtbbhddpfclgohaaWI
import Derived.Test.YtbbhddpfclgohaaKY
namespace Go.Proofs.Ytbbhddpfclgohaa
open Go.RowKit

theorem add_pack (k a : Nat) (c : UInt8) (hk : k ≤ 63) (ha : a < 2 ^ k) : IntKind.u64.wrap ((a : Int) + IntKind.u64.wrap ((c.toNat : Int) % 128 * 2 ^ k)) = ((a + (c.toNat % 128 % 2 ^ (64 - k)) * 2 ^ k : Nat) : Int) ∧ a + (c.toNat % 128 % 2 ^ (64 - k)) * 2 ^ k < 18446744073709551616 := by
  have h64 : (2 : Nat) ^ 64 = 2 ^ (64 - k) * 2 ^ k := by rw [← Nat.pow_add]; congr 1; omega
  have hn : (2 : Nat) ^ 64 = 18446744073709551616 := by decide
  have e1 : ((c.toNat : Int) % 128 * 2 ^ k) = ((c.toNat % 128 * 2 ^ k : Nat) : Int) := by push_cast; rfl
  have e2 : IntKind.u64.wrap ((c.toNat % 128 * 2 ^ k : Nat) : Int) = ((c.toNat % 128 * 2 ^ k % 2 ^ 64 : Nat) : Int) := by rw [IntKind.wrap_u64, hn]; omega
  have e3 : c.toNat % 128 * 2 ^ k % 2 ^ 64 = (c.toNat % 128 % 2 ^ (64 - k)) * 2 ^ k := by rw [h64, Nat.mul_mod_mul_right]
  have hx : c.toNat % 128 % 2 ^ (64 - k) + 1 ≤ 2 ^ (64 - k) := Nat.mod_lt _ (Nat.pow_pos (by omega))
  have hb : (c.toNat % 128 % 2 ^ (64 - k)) * 2 ^ k + 2 ^ k ≤ 2 ^ 64 := by
    rw [h64, ← Nat.succ_mul]
    exact Nat.mul_le_mul_right _ hx
  have hlt : a + (c.toNat % 128 % 2 ^ (64 - k)) * 2 ^ k < 18446744073709551616 := by rw [← hn]; omega
  refine ⟨?_, hlt⟩
  rw [e1, e2, e3, IntKind.wrap_u64]
  omega
theorem zag_even {m : Nat} (h : m < 18446744073709551616) (h0 : m % 2 = 0) : wrap64 (IntKind.u64.wrap ((m : Int) / 2)) = zag m := by
  rw [IntKind.wrap_u64]; unfold wrap64 zag; rw [if_pos h0]; omega
theorem zag_odd {m : Nat} (h : m < 18446744073709551616) (h0 : ¬ m % 2 = 0) : wrap64 (wrap64 (-wrap64 (IntKind.u64.wrap ((m : Int) / 2))) - 1) = zag m := by
  rw [IntKind.wrap_u64]; unfold wrap64 zag; rw [if_neg h0]; omega
/-- at the head of its loop -/
def RLL (W : World) (l : List UInt8) (v5 v6 : Value) (wr : World) : Prop := ∃ (p r : List UInt8) (a : Nat), v5 = .int .u64 a ∧ v6 = .int .i64 p.length ∧ l = p ++ r ∧ Mor p ∧ p.length ≤ 10 ∧ (p.length ≤ 9 → a = valV p) ∧ Below W.heap.size W wr
set_option maxRecDepth 100000 in
set_option maxHeartbeats 40000000 in
theorem refLong_any (l : List UInt8) (A : Option Addr) (cap : Nat) (w : World) (hl100 : l.length ≤ 100000) (hcap : l.length ≤ cap) (hr : RdB w w.heap.size A l) : Calls Try.prog 44 #[.slice A l.length cap] w (LgT w l) := by
  have HR := Lib.hid hr
  have HC := Lib.hid hcap
  have hl1 : (l.length : Int) ≤ 100000 := by omega
  have hcapi : (l.length : Int) ≤ (cap : Int) := by omega
  have HS : Hid (RLL w l (.int .u64 0) (.int .i64 0) w) := Lib.hid ⟨[], l, 0, rfl, rfl, rfl, Mor.nil, by simp, fun _ => rfl, Below.refl _ _⟩
  clear hr hcap hl100
  go_enter Try.func44, Try.ntmps44
  go_wp2_with fail
  go_loopw [5, 6] (fun v5 v6 wr => RLL w l v5 v6 wr) (fun _ v6 _ => 10 - (intOf v6).toNat)
  case atStart => exact HS.out
  case round =>
    obtain ⟨p, r, a, rfl, rfl, hl, hp, hp10, ha, hb⟩ := hrel
    have HL := Lib.hid hl
    have HP := Lib.hid hp
    have HA := Lib.hid ha
    have HB := Lib.hid hb
    clear hl hp ha hb
    obtain ⟨i, hi⟩ : ∃ i, Hid (i = p.length) := ⟨_, Lib.hid rfl⟩
    rw [← hi.out] at hp10 ⊢
    rcases r with _ | ⟨c, t⟩
    · have hil : i = l.length := by have h := congrArg List.length HL.out; rw [List.append_nil] at h; rw [hi.out, h]
      have HY : Hid (LgT w l (.returned (.tuple #[.int .i64 0, .int .i64 0, .bool false])) wr) := Lib.hid ⟨HB.out, .inr ⟨fun u r' _ => by rw [HL.out, List.append_nil]; exact vL_none HP.out, rfl⟩⟩
      have hnl : ¬ (i : Int) < (l.length : Int) := by omega
      have hnld : decide (i < l.length) = false := decide_eq_false (by omega)
      clear hil
      go_wp2_with fail
      go_ret3
      exact HY.out
    · have hil : i < l.length := by have h := congrArg List.length HL.out; rw [List.length_append, List.length_cons] at h; have := hi.out; omega
      have hnl : (i : Int) < (l.length : Int) := by omega
      have hnld : decide (i < l.length) = true := decide_eq_true hil
      have hi10 : i = 10 ∨ i ≤ 9 := by omega
      rcases hi10 with rfl | hi9
      · have HY : Hid (LgT w l (.returned (.tuple #[.int .i64 0, .int .i64 0, .bool false])) wr) := Lib.hid ⟨HB.out, .inr ⟨fun u r' hu => by rw [HL.out]; exact vL_long HP.out (by have := hi.out; omega) hu, rfl⟩⟩
        clear hil
        go_wp2_with fail
        go_ret3
        exact HY.out
      · have hi9i : (i : Int) < 10 := by omega
        have hi0 : (0 : Int) ≤ (i : Int) := by omega
        obtain ⟨x, HX⟩ : ∃ x : Int, Hid (x = (c.toNat : Int)) := ⟨_, Lib.hid rfl⟩
        have hx0 : 0 ≤ x := by rw [HX.out]; omega
        have hx1 : x < 256 := by have := c.toNat_lt; rw [HX.out]; omega
        have hci : l[i]? = some c := by rw [HL.out, hi.out]; simp
        obtain ⟨ad, rfl, hab, hcells⟩ := (HR.out.below HB.out (Nat.le_refl _)) (fun e => by subst e; simp at hci)
        have x0 := hcells i c hci
        rw [← HX.out] at x0
        have hpl := valV_lt p
        rw [← pow7, ← hi.out] at hpl
        obtain ⟨hov, hml⟩ := add_pack (7 * i) (valV p) c (by omega) hpl
        have hav : a = valV p := HA.out (by have := hi.out; omega)
        rw [← hav, ← HX.out] at hov
        rw [← hav] at hml
        obtain ⟨m, HM⟩ : ∃ m : Nat, Hid (m = a + (c.toNat % 128 % 2 ^ (64 - 7 * i)) * 2 ^ (7 * i)) := ⟨_, Lib.hid rfl⟩
        rw [← HM.out] at hov hml
        have HML := Lib.hid hml
        have HAV := Lib.hid hav
        clear hpl hav hcells hml hci
        by_cases h128 : (128 : Int) ≤ x
        · have HY : Hid (∀ v6, v6 = .int .i64 ((i : Int) + 1) → RLL w l (.int .u64 (m : Int)) v6 wr) := Lib.hid fun v6 h9 => by
            have hcx := HX.out
            refine ⟨p ++ [c], t, m, rfl, ?_, by rw [HL.out, List.append_assoc]; rfl, HP.out.snoc (by omega), by have := hi.out; rw [List.length_append]; simp; omega, fun h9 => ?_, HB.out⟩
            · rw [h9, List.length_append, hi.out]; rfl
            · rw [List.length_append, List.length_singleton] at h9
              rw [HM.out, HA.out (by omega), hi.out, valV_snoc, pow7, Nat.mul_comm (128 ^ p.length)]
              congr 2
              have h1 : (2 : Nat) ^ 8 ≤ 2 ^ (64 - 7 * p.length) := Nat.pow_le_pow_right (by omega) (by omega)
              have h2 : (2 : Nat) ^ 8 = 256 := by decide
              exact Nat.mod_eq_of_lt (by omega)
          clear hil
          go_wp2_with fail
          go_roundw
          case rel => first | exact HY.out _ rfl | ((repeat apply Exists.intro); exact ⟨HY.out _ rfl, rfl⟩)
          case measure => simp [intOf]; omega
        · obtain ⟨z, HZ⟩ : ∃ z : Int, Hid (z = zag m) := ⟨_, Lib.hid rfl⟩
          have HZK : Hid (i64ok z) := Lib.hid (by rw [HZ.out]; exact zag_ok HML.out)
          have SH := Lib.hid (refShort_any z HZK.out)
          have HZM : Hid (zig z = m) := Lib.hid (by rw [HZ.out, zig_zag])
          obtain ⟨st, hst⟩ := ba_of (p ++ [c])
          obtain ⟨sx, hsx⟩ := ba_of (vL m)
          have HTK : Hid ((l.take (i + 1)).length = i + 1) := Lib.hid (by rw [List.length_take]; omega)
          have HTE : Hid (st.data.toList = l.take (i + 1)) := Lib.hid (by
            have e : p ++ c :: t = (p ++ [c]) ++ t := by rw [List.append_assoc]; rfl
            rw [hst, HL.out, e]
            exact (List.take_left' (by have := hi.out; rw [List.length_append, List.length_singleton]; omega)).symm)
          have C2 : Hid (∀ W, Below wr.heap.size wr W → (convert 26 9 (.slice (some ad) (i + 1) cap)).run Try.prog W = .ok (.string st) W) := Lib.hid fun W hbW =>
            conv_rd (cap := cap) (((HR.out.below HB.out (Nat.le_refl _)).below hbW HB.out.size).take (i + 1)) HTK.out st HTE.out
          have C1 : Hid (∀ B v W, OwnB W B v (vL (zig z)) → (convert 26 9 v).run Try.prog W = .ok (.string sx) W) := Lib.hid fun B v W ho => conv_ownS ho sx (by rw [hsx, HZM.out])
          have hic : (i : Int) + 1 ≤ (cap : Int) := by omega
          have hicn : i + 1 ≤ cap := by omega
          have HW1 : Hid (IntKind.i64.wrap ((i : Int) + 1) = (i : Int) + 1) := Lib.hid (IntWalk.i64_in _ (by omega))
          have HBR := Lib.hid (Below.refl wr.heap.size wr)
          have HST := Lib.hid hst
          have HSX := Lib.hid hsx
          have hcase : (x = 0 ∧ i ≠ 0) ∨ (1 < x ∧ i = 9) ∨ ((x = 0 → i = 0) ∧ (1 < x → i ≠ 9)) := by omega
          have hno : (x = 0 ∧ i ≠ 0) ∨ (1 < x ∧ i = 9) → Hid ((sx.toList == st.toList) = false ∧ ∀ W, Below w.heap.size w W → LgT w l (.returned (.tuple #[.int .i64 0, .int .i64 0, .bool false])) W) := fun h => Lib.hid (by
            have hcx := HX.out
            have hnv : vL m ≠ p ++ [c] := fun e => by
              rcases h with ⟨h1, h2⟩ | ⟨h1, h2⟩
              · exact vL_last e (fun e => by rw [e] at hi; have := hi.out; simp at this; omega) (by omega)
              · have hv := valV_vL m
                rw [e, valV_snoc, ← hi.out, h2, Nat.mod_eq_of_lt (by omega)] at hv
                have e9 : (128 : Nat) ^ 9 = 9223372036854775808 := by decide
                rw [e9] at hv
                have := HML.out
                omega
            refine ⟨?_, fun W hW => ⟨hW, .inr ⟨fun u r hu => ?_, rfl⟩⟩⟩
            · rw [ByteArray.toList_eq, ByteArray.toList_eq, HSX.out, HST.out]
              exact beq_false_of_ne hnv
            · rw [HL.out]
              rcases h with ⟨h1, h2⟩ | ⟨h1, h2⟩
              · exact vL_zero HP.out (by omega) (fun e => by rw [e] at hi; have := hi.out; simp at this; omega)
              · exact vL_wide HP.out (by have := hi.out; omega) (by omega) (by omega) hu)
          have hyes : (x = 0 → i = 0) → (1 < x → i ≠ 9) → Hid (sx = st ∧ ∀ W, Below w.heap.size w W → ∀ s : Int, s = (i : Int) + 1 → LgT w l (.returned (.tuple #[.int .i64 z, .int .i64 s, .bool true])) W) := fun h2 h3 => Lib.hid (by
            have hcx := HX.out
            have e : m = valV (p ++ [c]) := by
              rw [HM.out, HAV.out, hi.out]
              exact pack_val (by have := hi.out; omega) (by omega) (fun h => by have := hi.out; have h4 := h3; omega)
            have hv : vL m = p ++ [c] := by
              rw [e]
              exact vL_val HP.out (by omega) (by
                by_cases h0 : c.toNat = 0
                · have := h2 (by omega)
                  exact .inr (List.eq_nil_of_length_eq_zero (by have := hi.out; omega))
                · exact .inl h0)
            refine ⟨bytes_ext (by rw [HSX.out, HST.out, hv]), fun W hW s hs => ⟨hW, .inl ⟨m, t, HML.out, by rw [hv, HL.out, List.append_assoc]; rfl, ?_⟩⟩⟩
            have : (vL m).length = i + 1 := by rw [hv, List.length_append, hi.out]; rfl
            rw [this, hs, HZ.out]
            rfl)
          clear hil hst hsx
          have hbad : ((x = 0 ∧ i ≠ 0) ∨ (1 < x ∧ i = 9)) ∨ ((x = 0 → i = 0) ∧ (1 < x → i ≠ 9)) := by omega
          clear hcase
          by_cases hpar : m % 2 = 0
          · have hp1 : ((m : Int) % 2 == 1) = false := beq_false_of_ne (by omega)
            have hz1 : wrap64 (IntKind.u64.wrap ((m : Int) / 2)) = z := by rw [HZ.out]; exact zag_even HML.out hpar
            clear hpar
            rcases hbad with h | ⟨h2, h3⟩
            · obtain ⟨hne, hnn⟩ := (hno h).out
              have HN := Lib.hid hnn
              clear hno hyes h hnn
              go_wp2_with fail
              have hw1 := HW1.out
              have hi1 : (0 : Int) ≤ (i : Int) + 1 := by omega
              have c2 := C2.out _ HBR.out
              have c2d := C2.out _ (drew_below wr)
              go_region_law (first
                | (go_simp; go_at_call 29; refine (SH.out _).mono ?_; rintro e w6 ⟨v6, rfl, ho6, hb6⟩
                   have c1 := C1.out _ _ _ ho6
                   have HBR := Lib.hid ((drew_below wr).trans (hb6.mono (drew_below wr).size))
                   have c2 := C2.out _ HBR.out
                   clear ho6 hb6))
              all_goals
                clear hw1
                go_wp2_with fail
                go_ret3
                exact HN.out _ (HB.out.trans (HBR.out.mono HB.out.size))
            · obtain ⟨rfl, hnn⟩ := (hyes h2 h3).out
              have HN := Lib.hid hnn
              clear hno hyes h2 h3 hnn
              go_wp2_with fail
              have hw1 := HW1.out
              have hi1 : (0 : Int) ≤ (i : Int) + 1 := by omega
              have c2 := C2.out _ HBR.out
              have c2d := C2.out _ (drew_below wr)
              go_region_law (first
                | (go_simp; go_at_call 29; refine (SH.out _).mono ?_; rintro e w6 ⟨v6, rfl, ho6, hb6⟩
                   have c1 := C1.out _ _ _ ho6
                   have HBR := Lib.hid ((drew_below wr).trans (hb6.mono (drew_below wr).size))
                   have c2 := C2.out _ HBR.out
                   clear ho6 hb6))
              all_goals
                clear hw1
                go_wp2_with fail
                go_ret3
                exact HN.out _ (HB.out.trans (HBR.out.mono HB.out.size)) _ rfl
          · have hp1 : ((m : Int) % 2 == 1) = true := by
              have : (m : Int) % 2 = 1 := by omega
              rw [this]; rfl
            have hz1 : wrap64 (wrap64 (-wrap64 (IntKind.u64.wrap ((m : Int) / 2))) - 1) = z := by rw [HZ.out]; exact zag_odd HML.out hpar
            clear hpar
            rcases hbad with h | ⟨h2, h3⟩
            · obtain ⟨hne, hnn⟩ := (hno h).out
              have HN := Lib.hid hnn
              clear hno hyes h hnn
              go_wp2_with fail
              have hw1 := HW1.out
              have hi1 : (0 : Int) ≤ (i : Int) + 1 := by omega
              have c2 := C2.out _ HBR.out
              have c2d := C2.out _ (drew_below wr)
              go_region_law (first
                | (go_simp; go_at_call 29; refine (SH.out _).mono ?_; rintro e w6 ⟨v6, rfl, ho6, hb6⟩
                   have c1 := C1.out _ _ _ ho6
                   have HBR := Lib.hid ((drew_below wr).trans (hb6.mono (drew_below wr).size))
                   have c2 := C2.out _ HBR.out
                   clear ho6 hb6))
              all_goals
                clear hw1
                go_wp2_with fail
                go_ret3
                exact HN.out _ (HB.out.trans (HBR.out.mono HB.out.size))
            · obtain ⟨rfl, hnn⟩ := (hyes h2 h3).out
              have HN := Lib.hid hnn
              clear hno hyes h2 h3 hnn
              go_wp2_with fail
              have hw1 := HW1.out
              have hi1 : (0 : Int) ≤ (i : Int) + 1 := by omega
              have c2 := C2.out _ HBR.out
              have c2d := C2.out _ (drew_below wr)
              go_region_law (first
                | (go_simp; go_at_call 29; refine (SH.out _).mono ?_; rintro e w6 ⟨v6, rfl, ho6, hb6⟩
                   have c1 := C1.out _ _ _ ho6
                   have HBR := Lib.hid ((drew_below wr).trans (hb6.mono (drew_below wr).size))
                   have c2 := C2.out _ HBR.out
                   clear ho6 hb6))
              all_goals
                clear hw1
                go_wp2_with fail
                go_ret3
                exact HN.out _ (HB.out.trans (HBR.out.mono HB.out.size)) _ rfl
end Go.Proofs.Ytbbhddpfclgohaa
