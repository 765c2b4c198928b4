/- The document's Check; WalChecks. -/
import Derived.Test.YtgdofnbnahpedaaJP
namespace Go.Proofs.Ytgdofnbnahpedaa
open Go.RowKit

theorem xor64s {a : Nat} (ha : a < 65536) : bits .xor .i64 (a : Int) 4129 = ((a ^^^ 4129 : Nat) : Int) := by
  have h1 : (BitVec.ofInt 64 (a : Int)).toNat = a := by rw [BitVec.toNat_ofInt]; simp; omega
  have h2 : (BitVec.ofInt 64 4129).toNat = 4129 := by decide
  show IntKind.i64.wrap (((BitVec.ofInt 64 (a : Int)) ^^^ (BitVec.ofInt 64 4129)).toNat : Int) = _
  rw [BitVec.toNat_xor, h1, h2, IntKind.wrap_i64]
  have := xor16_lt ha (b := 4129) (by omega)
  omega
theorem rstep_ne {X t : Nat} (h : ¬ X / 32768 % 2 = t) : bits .xor .i64 ((X : Int) * 2 % 65536) 4129 = ((ref1 X t : Nat) : Int) := by
  unfold ref1
  rw [if_neg h, ← xor64s (Nat.mod_lt _ (by omega))]
  congr 1
theorem rstep_eq {X t : Nat} (h : X / 32768 % 2 = t) : (X : Int) * 2 % 65536 = ((ref1 X t : Nat) : Int) := by
  unfold ref1
  rw [if_pos h]
  omega
set_option maxRecDepth 100000 in
set_option maxHeartbeats 20000000 in
theorem refcheck_any (l : List UInt8) (A : Option Addr) (n cap B : Nat) (hn : l.length = n) (hl : l.length ≤ 1000000) (w : World) (hr : RdB w B A l) :
    Calls Try.prog 97 #[.slice A n cap] w (Looks (.int .u16 (crcL 65535 l : Nat)) w) := by
  subst hn
  have HR := Lib.hid hr
  have hli : (l.length : Int) ≤ 1000000 := by omega
  clear hr hl
  go_enter Try.func97, Try.ntmps97
  go_wp2_with fail
  go_loop [3, 4] (fun v3 v4 => ∃ k : Nat, k ≤ l.length ∧ v4 = .int .i64 k ∧ v3 = .int .i64 (crcL 65535 (l.take k) : Nat)) (fun _ v4 => l.length - (intOf v4).toNat)
  case atStart => exact ⟨0, Nat.zero_le _, rfl, rfl⟩
  case round =>
    obtain ⟨k, hk, rfl, rfl⟩ := hrel
    by_cases hlt : k < l.length
    · have hki : (k : Int) < (l.length : Int) := by omega
      obtain ⟨c, hc⟩ : ∃ c, l[k]? = some c := ⟨_, List.getElem?_eq_getElem hlt⟩
      obtain ⟨ad, hA, hcell⟩ := HR.out.get hc
      subst hA
      obtain ⟨C, hC⟩ : ∃ C, C = crcL 65535 (l.take k) := ⟨_, rfl⟩
      have hCl : C < 65536 := by rw [hC]; exact crcL_lt _ (by omega)
      have HN : Hid (crcL 65535 (l.take (k + 1)) = refN c.toNat 8 C) := Lib.hid (by rw [crcL_step hc, ← hC]; exact crcB_ref hCl c)
      have HCL := Lib.hid hCl
      rw [← hC]
      have hb := byte_lt c
      obtain ⟨b, hb2⟩ : ∃ b, b = c.toNat := ⟨_, rfl⟩
      rw [← hb2] at hb HN hcell
      clear hc hC hCl hb2
      go_wp2_with fail
      go_loop [3, 5] (fun v3 v5 => ∃ j : Nat, j ≤ 8 ∧ v5 = .int .i64 (7 - (j : Int)) ∧ v3 = .int .i64 (refN b j C : Nat)) (fun _ v5 => ((match v5 with | .int _ n => n + 1 | _ => 0) : Int).toNat)
      case atStart => exact ⟨0, by omega, rfl, rfl⟩
      case round =>
        obtain ⟨j, hj, rfl, rfl⟩ := hrel
        obtain ⟨X, hX⟩ : ∃ X, X = refN b j C := ⟨_, rfl⟩
        have hXl : X < 65536 := by rw [hX]; exact refN_lt HCL.out j
        have HS : Hid (refN b (j + 1) C = ref1 X (b / 2 ^ (7 - j) % 2)) := Lib.hid (by rw [hX]; rfl)
        have HX := Lib.hid hX
        rw [← hX]
        have HXL := Lib.hid hXl
        have HBL := Lib.hid hb
        have hXi : (X : Int) ≤ 65535 := by omega
        have hbi : (b : Int) ≤ 255 := by omega
        clear hX hXl hb
        match j, hj with
        | 0, _ =>
          go_wp2_with fail
          · rename_i ht
            have ht2 : ¬ X / 32768 % 2 = b / 2 ^ (7 - 0) % 2 := by simp at ht; omega
            refine ⟨⟨1, by omega, by simp, ?_⟩, by decide⟩
            rw [HS.out, rstep_ne ht2]
          · rename_i ht
            have ht2 : X / 32768 % 2 = b / 2 ^ (7 - 0) % 2 := by simp at ht; omega
            refine ⟨⟨1, by omega, by simp, ?_⟩, by decide⟩
            rw [HS.out, rstep_eq ht2]
        | 1, _ =>
          go_wp2_with fail
          · rename_i ht
            have ht2 : ¬ X / 32768 % 2 = b / 2 ^ (7 - 1) % 2 := by simp at ht; omega
            refine ⟨⟨2, by omega, by simp, ?_⟩, by decide⟩
            rw [HS.out, rstep_ne ht2]
          · rename_i ht
            have ht2 : X / 32768 % 2 = b / 2 ^ (7 - 1) % 2 := by simp at ht; omega
            refine ⟨⟨2, by omega, by simp, ?_⟩, by decide⟩
            rw [HS.out, rstep_eq ht2]
        | 2, _ =>
          go_wp2_with fail
          · rename_i ht
            have ht2 : ¬ X / 32768 % 2 = b / 2 ^ (7 - 2) % 2 := by simp at ht; omega
            refine ⟨⟨3, by omega, by simp, ?_⟩, by decide⟩
            rw [HS.out, rstep_ne ht2]
          · rename_i ht
            have ht2 : X / 32768 % 2 = b / 2 ^ (7 - 2) % 2 := by simp at ht; omega
            refine ⟨⟨3, by omega, by simp, ?_⟩, by decide⟩
            rw [HS.out, rstep_eq ht2]
        | 3, _ =>
          go_wp2_with fail
          · rename_i ht
            have ht2 : ¬ X / 32768 % 2 = b / 2 ^ (7 - 3) % 2 := by simp at ht; omega
            refine ⟨⟨4, by omega, by simp, ?_⟩, by decide⟩
            rw [HS.out, rstep_ne ht2]
          · rename_i ht
            have ht2 : X / 32768 % 2 = b / 2 ^ (7 - 3) % 2 := by simp at ht; omega
            refine ⟨⟨4, by omega, by simp, ?_⟩, by decide⟩
            rw [HS.out, rstep_eq ht2]
        | 4, _ =>
          go_wp2_with fail
          · rename_i ht
            have ht2 : ¬ X / 32768 % 2 = b / 2 ^ (7 - 4) % 2 := by simp at ht; omega
            refine ⟨⟨5, by omega, by simp, ?_⟩, by decide⟩
            rw [HS.out, rstep_ne ht2]
          · rename_i ht
            have ht2 : X / 32768 % 2 = b / 2 ^ (7 - 4) % 2 := by simp at ht; omega
            refine ⟨⟨5, by omega, by simp, ?_⟩, by decide⟩
            rw [HS.out, rstep_eq ht2]
        | 5, _ =>
          go_wp2_with fail
          · rename_i ht
            have ht2 : ¬ X / 32768 % 2 = b / 2 ^ (7 - 5) % 2 := by simp at ht; omega
            refine ⟨⟨6, by omega, by simp, ?_⟩, by decide⟩
            rw [HS.out, rstep_ne ht2]
          · rename_i ht
            have ht2 : X / 32768 % 2 = b / 2 ^ (7 - 5) % 2 := by simp at ht; omega
            refine ⟨⟨6, by omega, by simp, ?_⟩, by decide⟩
            rw [HS.out, rstep_eq ht2]
        | 6, _ =>
          go_wp2_with fail
          · rename_i ht
            have ht2 : ¬ X / 32768 % 2 = b / 2 ^ (7 - 6) % 2 := by simp at ht; omega
            refine ⟨⟨7, by omega, by simp, ?_⟩, by decide⟩
            rw [HS.out, rstep_ne ht2]
          · rename_i ht
            have ht2 : X / 32768 % 2 = b / 2 ^ (7 - 6) % 2 := by simp at ht; omega
            refine ⟨⟨7, by omega, by simp, ?_⟩, by decide⟩
            rw [HS.out, rstep_eq ht2]
        | 7, _ =>
          go_wp2_with fail
          · rename_i ht
            have ht2 : ¬ X / 32768 % 2 = b / 2 ^ (7 - 7) % 2 := by simp at ht; omega
            refine ⟨⟨8, by omega, by simp, ?_⟩, by decide⟩
            rw [HS.out, rstep_ne ht2]
          · rename_i ht
            have ht2 : X / 32768 % 2 = b / 2 ^ (7 - 7) % 2 := by simp at ht; omega
            refine ⟨⟨8, by omega, by simp, ?_⟩, by decide⟩
            rw [HS.out, rstep_eq ht2]
        | 8, _ =>
          go_wp2_with fail
          go_round
          case rel => exact ⟨k + 1, hlt, by go_num, by rw [HN.out, HX.out]⟩
          case measure => simp [intOf]; omega
    · have hkl : k = l.length := by omega
      subst hkl
      have hcl : crcL 65535 (l.take l.length) < 65536 := crcL_lt _ (by omega)
      rw [List.take_length] at hcl ⊢
      have hci : ((crcL 65535 l : Nat) : Int) < 65536 := by omega
      go_wp2_with fail
      go_ret
      exact ⟨rfl, rfl⟩
theorem xor8 (a b : UInt8) : bits .xor .u8 (a.toNat : Int) (b.toNat : Int) = ((a ^^^ b).toNat : Int) := by
  have h0 := byte_lt a
  have h00 := byte_lt b
  have h1 : (BitVec.ofInt 8 (a.toNat : Int)).toNat = a.toNat := by rw [BitVec.toNat_ofInt]; simp; omega
  have h2 : (BitVec.ofInt 8 (b.toNat : Int)).toNat = b.toNat := by rw [BitVec.toNat_ofInt]; simp; omega
  show IntKind.u8.wrap (((BitVec.ofInt 8 (a.toNat : Int)) ^^^ (BitVec.ofInt 8 (b.toNat : Int))).toNat : Int) = _
  rw [BitVec.toNat_xor, h1, h2, IntKind.wrap_u8, UInt8.toNat_xor]
  have := Nat.xor_lt_two_pow (n := 8) h0 h00
  omega
theorem xor8_ne {a b : UInt8} (h : b ≠ 0) : a ^^^ b ≠ a := by
  intro e
  have h1 : (a ^^^ b).toNat = a.toNat := by rw [e]
  rw [UInt8.toNat_xor, Nat.xor_comm] at h1
  have h2 : b.toNat ^^^ a.toNat = 0 ^^^ a.toNat := by rw [h1, Nat.zero_xor]
  have h3 := xor_cancel h2
  exact h (UInt8.toNat_inj.1 h3)
end Go.Proofs.Ytgdofnbnahpedaa
