/- The document's Check; WalChecks. -/
import Derived.Test.YtcofacafnokbpaaJP
namespace Go.Proofs.Ytcofacafnokbpaa
open Go.RowKit

theorem xor64s {a : Nat} (ha : a < 65536) : bits .xor .i64 (a : Int) 4129 = ((a ^^^ 4129 : Nat) : Int) := by
  have h1 : (BitVec.ofInt 64 (a : Int)).toNat = a := by rw [BitVec.toNat_ofInt]; simp; omega
  have h2 : (BitVec.ofInt 64 4129).toNat = 4129 := by decide
  show IntKind.i64.wrap (((BitVec.ofInt 64 (a : Int)) ^^^ (BitVec.ofInt 64 4129)).toNat : Int) = _
  rw [BitVec.toNat_xor, h1, h2, IntKind.wrap_i64]
  have := xor16_lt ha (b := 4129) (by omega)
  omega
theorem rstep_ne {X t : Nat} (h : ¬ X / 32768 % 2 = t) : bits .xor .i64 ((X : Int) * 2 % 65536) 4129 = ((ref1 X t : Nat) : Int) := by
  unfold ref1
  rw [if_neg h, ← xor64s (Nat.mod_lt _ (by omega))]
  congr 1
theorem rstep_eq {X t : Nat} (h : X / 32768 % 2 = t) : (X : Int) * 2 % 65536 = ((ref1 X t : Nat) : Int) := by
  unfold ref1
  rw [if_pos h]
  omega
set_option maxRecDepth 100000 in
set_option maxHeartbeats 20000000 in
theorem refcheck_any (l : List UInt8) (A : Option Addr) (n cap B : Nat) (hn : l.length = n) (hl : l.length ≤ 1000000) (w : World) (hr : RdB w B A l) :
    Calls Try.prog 43 #[.slice A n cap] w (Looks (.int .u16 (crcL 65535 l : Nat)) w) := by
  subst hn
  have HR := Lib.hid hr
  have hli : (l.length : Int) ≤ 1000000 := by omega
  clear hr hl
  go_enter Try.func43, Try.ntmps43
  go_wp2_with fail
  go_loop [3, 4] (fun v3 v4 => ∃ k : Nat, k ≤ l.length ∧ v4 = .int .i64 k ∧ v3 = .int .i64 (crcL 65535 (l.take k) : Nat)) (fun _ v4 => l.length - (intOf v4).toNat)
  case atStart => exact ⟨0, Nat.zero_le _, rfl, rfl⟩
  case round =>
    obtain ⟨k, hk, rfl, rfl⟩ := hrel
    by_cases hlt : k < l.length
    · have hki : (k : Int) < (l.length : Int) := by omega
      obtain ⟨c, hc⟩ : ∃ c, l[k]? = some c := ⟨_, List.getElem?_eq_getElem hlt⟩
      obtain ⟨ad, hA, hcell⟩ := HR.out.get hc
      subst hA
      obtain ⟨C, hC⟩ : ∃ C, C = crcL 65535 (l.take k) := ⟨_, rfl⟩
      have hCl : C < 65536 := by rw [hC]; exact crcL_lt _ (by omega)
      have HN : Hid (crcL 65535 (l.take (k + 1)) = refN c.toNat 8 C) := Lib.hid (by rw [crcL_step hc, ← hC]; exact crcB_ref hCl c)
      have HCL := Lib.hid hCl
      rw [← hC]
      have hb := byte_lt c
      obtain ⟨b, hb2⟩ : ∃ b, b = c.toNat := ⟨_, rfl⟩
      rw [← hb2] at hb HN hcell
      clear hc hC hCl hb2
      go_wp2_with fail
      go_loop [3, 5] (fun v3 v5 => ∃ j : Nat, j ≤ 8 ∧ v5 = .int .i64 (7 - (j : Int)) ∧ v3 = .int .i64 (refN b j C : Nat)) (fun _ v5 => ((match v5 with | .int _ n => n + 1 | _ => 0) : Int).toNat)
      case atStart => exact ⟨0, by omega, rfl, rfl⟩
      case round =>
        obtain ⟨j, hj, rfl, rfl⟩ := hrel
        obtain ⟨X, hX⟩ : ∃ X, X = refN b j C := ⟨_, rfl⟩
        have hXl : X < 65536 := by rw [hX]; exact refN_lt HCL.out j
        have HS : Hid (refN b (j + 1) C = ref1 X (b / 2 ^ (7 - j) % 2)) := Lib.hid (by rw [hX]; rfl)
        have HX := Lib.hid hX
        rw [← hX]
        have HXL := Lib.hid hXl
        have HBL := Lib.hid hb
        have hXi : (X : Int) ≤ 65535 := by omega
        have hbi : (b : Int) ≤ 255 := by omega
        clear hX hXl hb
        match j, hj with
        | 0, _ =>
          go_wp2_with fail
          · rename_i ht
            have ht2 : ¬ X / 32768 % 2 = b / 2 ^ (7 - 0) % 2 := by simp at ht; omega
            refine ⟨⟨1, by omega, by simp, ?_⟩, by decide⟩
            rw [HS.out, rstep_ne ht2]
          · rename_i ht
            have ht2 : X / 32768 % 2 = b / 2 ^ (7 - 0) % 2 := by simp at ht; omega
            refine ⟨⟨1, by omega, by simp, ?_⟩, by decide⟩
            rw [HS.out, rstep_eq ht2]
        | 1, _ =>
          go_wp2_with fail
          · rename_i ht
            have ht2 : ¬ X / 32768 % 2 = b / 2 ^ (7 - 1) % 2 := by simp at ht; omega
            refine ⟨⟨2, by omega, by simp, ?_⟩, by decide⟩
            rw [HS.out, rstep_ne ht2]
          · rename_i ht
            have ht2 : X / 32768 % 2 = b / 2 ^ (7 - 1) % 2 := by simp at ht; omega
            refine ⟨⟨2, by omega, by simp, ?_⟩, by decide⟩
            rw [HS.out, rstep_eq ht2]
        | 2, _ =>
          go_wp2_with fail
          · rename_i ht
            have ht2 : ¬ X / 32768 % 2 = b / 2 ^ (7 - 2) % 2 := by simp at ht; omega
            refine ⟨⟨3, by omega, by simp, ?_⟩, by decide⟩
            rw [HS.out, rstep_ne ht2]
          · rename_i ht
            have ht2 : X / 32768 % 2 = b / 2 ^ (7 - 2) % 2 := by simp at ht; omega
            refine ⟨⟨3, by omega, by simp, ?_⟩, by decide⟩
            rw [HS.out, rstep_eq ht2]
        | 3, _ =>
          go_wp2_with fail
          · rename_i ht
            have ht2 : ¬ X / 32768 % 2 = b / 2 ^ (7 - 3) % 2 := by simp at ht; omega
            refine ⟨⟨4, by omega, by simp, ?_⟩, by decide⟩
            rw [HS.out, rstep_ne ht2]
          · rename_i ht
            have ht2 : X / 32768 % 2 = b / 2 ^ (7 - 3) % 2 := by simp at ht; omega
            refine ⟨⟨4, by omega, by simp, ?_⟩, by decide⟩
            rw [HS.out, rstep_eq ht2]
        | 4, _ =>
          go_wp2_with fail
          · rename_i ht
            have ht2 : ¬ X / 32768 % 2 = b / 2 ^ (7 - 4) % 2 := by simp at ht; omega
            refine ⟨⟨5, by omega, by simp, ?_⟩, by decide⟩
            rw [HS.out, rstep_ne ht2]
          · rename_i ht
            have ht2 : X / 32768 % 2 = b / 2 ^ (7 - 4) % 2 := by simp at ht; omega
            refine ⟨⟨5, by omega, by simp, ?_⟩, by decide⟩
            rw [HS.out, rstep_eq ht2]
        | 5, _ =>
          go_wp2_with fail
          · rename_i ht
            have ht2 : ¬ X / 32768 % 2 = b / 2 ^ (7 - 5) % 2 := by simp at ht; omega
            refine ⟨⟨6, by omega, by simp, ?_⟩, by decide⟩
            rw [HS.out, rstep_ne ht2]
          · rename_i ht
            have ht2 : X / 32768 % 2 = b / 2 ^ (7 - 5) % 2 := by simp at ht; omega
            refine ⟨⟨6, by omega, by simp, ?_⟩, by decide⟩
            rw [HS.out, rstep_eq ht2]
        | 6, _ =>
          go_wp2_with fail
          · rename_i ht
            have ht2 : ¬ X / 32768 % 2 = b / 2 ^ (7 - 6) % 2 := by simp at ht; omega
            refine ⟨⟨7, by omega, by simp, ?_⟩, by decide⟩
            rw [HS.out, rstep_ne ht2]
          · rename_i ht
            have ht2 : X / 32768 % 2 = b / 2 ^ (7 - 6) % 2 := by simp at ht; omega
            refine ⟨⟨7, by omega, by simp, ?_⟩, by decide⟩
            rw [HS.out, rstep_eq ht2]
        | 7, _ =>
          go_wp2_with fail
          · rename_i ht
            have ht2 : ¬ X / 32768 % 2 = b / 2 ^ (7 - 7) % 2 := by simp at ht; omega
            refine ⟨⟨8, by omega, by simp, ?_⟩, by decide⟩
            rw [HS.out, rstep_ne ht2]
          · rename_i ht
            have ht2 : X / 32768 % 2 = b / 2 ^ (7 - 7) % 2 := by simp at ht; omega
            refine ⟨⟨8, by omega, by simp, ?_⟩, by decide⟩
            rw [HS.out, rstep_eq ht2]
        | 8, _ =>
          go_wp2_with fail
          go_round
          case rel => exact ⟨k + 1, hlt, by go_num, by rw [HN.out, HX.out]⟩
          case measure => simp [intOf]; omega
    · have hkl : k = l.length := by omega
      subst hkl
      have hcl : crcL 65535 (l.take l.length) < 65536 := crcL_lt _ (by omega)
      rw [List.take_length] at hcl ⊢
      have hci : ((crcL 65535 l : Nat) : Int) < 65536 := by omega
      go_wp2_with fail
      go_ret
      exact ⟨rfl, rfl⟩
theorem xor8 (a b : UInt8) : bits .xor .u8 (a.toNat : Int) (b.toNat : Int) = ((a ^^^ b).toNat : Int) := by
  have h0 := byte_lt a
  have h00 := byte_lt b
  have h1 : (BitVec.ofInt 8 (a.toNat : Int)).toNat = a.toNat := by rw [BitVec.toNat_ofInt]; simp; omega
  have h2 : (BitVec.ofInt 8 (b.toNat : Int)).toNat = b.toNat := by rw [BitVec.toNat_ofInt]; simp; omega
  show IntKind.u8.wrap (((BitVec.ofInt 8 (a.toNat : Int)) ^^^ (BitVec.ofInt 8 (b.toNat : Int))).toNat : Int) = _
  rw [BitVec.toNat_xor, h1, h2, IntKind.wrap_u8, UInt8.toNat_xor]
  have := Nat.xor_lt_two_pow (n := 8) h0 h00
  omega
theorem xor8_ne {a b : UInt8} (h : b ≠ 0) : a ^^^ b ≠ a := by
  intro e
  have h1 : (a ^^^ b).toNat = a.toNat := by rw [e]
  rw [UInt8.toNat_xor, Nat.xor_comm] at h1
  have h2 : b.toNat ^^^ a.toNat = 0 ^^^ a.toNat := by rw [h1, Nat.zero_xor]
  have h3 := xor_cancel h2
  exact h (UInt8.toNat_inj.1 h3)
set_option maxRecDepth 100000 in
set_option maxHeartbeats 8000000 in
theorem walChecks_law (l : List UInt8) (A : Option Addr) (cap : Nat) (c : Int) (y : UInt8) (w : World) (hc : i64ok c) (hr : RdB w w.heap.size A l) :
    Calls Try.prog 7 #[.slice A l.length cap, .int .i64 c, .int .u8 (y.toNat : Int)] w (Ans (.bool true) w) := by
  by_cases hbig : (5000 : Int) < l.length
  · clear hr hc
    go_enter Try.func7, Try.ntmps7
    go_wp2_with (go_at_call 40; refine (alive_wal _).mono ?_; rintro e w2 ⟨rfl, hb⟩; have HY := Lib.hid hb; clear hb)
    go_ret
    exact ⟨rfl, HY.out⟩
  · have HC1 := Lib.hid (check_any l A _ cap _ rfl (by omega) w hr)
    have HC2 := Lib.hid (refcheck_any l A _ cap _ rfl (by omega) w hr)
    obtain ⟨S, hS⟩ : ∃ S, S = crcL 65535 l := ⟨_, rfl⟩
    rw [← hS] at HC1 HC2
    by_cases hz : l.length = 0 ∨ y = 0
    · have hzz : (l.length : Int) = 0 ∨ (y.toNat : Int) = 0 := by
        rcases hz with h | h
        · exact .inl (by omega)
        · exact .inr (by rw [h]; rfl)
      clear hr hc hS hz
      by_cases h0 : (l.length : Int) = 0
      · clear hzz
        go_enter Try.func7, Try.ntmps7
        go_wp2_with (first
          | (go_at_call 42; refine HC1.out.mono ?_; rintro e w2 ⟨rfl, rfl⟩)
          | (go_at_call 43; refine HC2.out.mono ?_; rintro e w2 ⟨rfl, rfl⟩)
          | (go_at_call 40; refine (alive_wal _).mono ?_; rintro e w2 ⟨rfl, hb⟩; have HY := Lib.hid hb; clear hb))
        go_ret
        exact ⟨rfl, HY.out⟩
      · have h1 : (y.toNat : Int) = 0 := by omega
        have h2 : ((l.length : Int) == 0) = false := beq_false_of_ne h0
        clear hzz
        go_enter Try.func7, Try.ntmps7
        go_wp2_with (first
          | (go_at_call 42; refine HC1.out.mono ?_; rintro e w2 ⟨rfl, rfl⟩)
          | (go_at_call 43; refine HC2.out.mono ?_; rintro e w2 ⟨rfl, rfl⟩)
          | (go_at_call 40; refine (alive_wal _).mono ?_; rintro e w2 ⟨rfl, hb⟩; have HY := Lib.hid hb; clear hb))
        go_ret
        exact ⟨rfl, HY.out⟩
    · obtain ⟨i0, hi, hz0, hz1, hz2⟩ := info_parts info8
      have hl0 : 0 < l.length := by omega
      have hy0 : y ≠ 0 := fun e => hz (.inr e)
      have hli : ¬ (l.length : Int) = 0 := by omega
      have hyi : ¬ (y.toNat : Int) = 0 := fun e => hy0 (UInt8.toNat_inj.1 (by show y.toNat = 0; omega))
      obtain ⟨k, hk⟩ : ∃ k, k = pickZ c l.length := ⟨_, rfl⟩
      have hkl : k < l.length := by rw [hk]; exact pickZ_lt c hl0
      have HP := Lib.hid (pick_any c l.length hl0 (by omega) hc k hk (l.length : Int) rfl)
      obtain ⟨a, ha⟩ : ∃ a, l[k]? = some a := ⟨_, List.getElem?_eq_getElem hkl⟩
      have hal := (List.getElem?_eq_some_iff.1 ha).2
      have hX : Hid (bits .xor .u8 (a.toNat : Int) (y.toNat : Int) = ((a ^^^ y).toNat : Int)) := Lib.hid (xor8 a y)
      obtain ⟨T, hT⟩ : ∃ T, T = crcL 65535 (l.set k (a ^^^ y)) := ⟨_, rfl⟩
      have hne : T ≠ S := by rw [hT, hS]; exact crcL_other (by omega) l k hkl _ (by rw [hal]; exact xor8_ne hy0)
      have hnei : Hid (¬ (T : Int) = (S : Int)) := Lib.hid (by omega)
      have HR := Lib.hid (hr.below (alloc_below w (.cells #[] 5)) (Nat.le_refl _))
      have HL : Hid (l.length ≤ 5000) := Lib.hid (by omega)
      have HT := Lib.hid hT
      have HA := Lib.hid ha
      have hki : (k : Int) < (l.length : Int) := by omega
      have hb1 : ((l.length : Int) == 0) = false := beq_false_of_ne hli
      have hb2 : ((y.toNat : Int) == 0) = false := beq_false_of_ne hyi
      have HE : Hid (OwnB (w.alloc (.cells #[] 5)) w.heap.size (.slice (some ⟨w.heap.size, 0, none⟩) 0 0) []) := Lib.hid (own_empty (Nat.le_refl w.heap.size) 0)
      have HW := Lib.hid (alloc_below w (.cells #[] 5))
      have hbig2 : (l.length : Int) ≤ 5000 := by omega
      clear hr hc hS hz hk hkl ha hal hT hne hl0 hy0 hbig
      go_enter Try.func7, Try.ntmps7
      go_wp2_with (first
        | (go_at_call 42; refine HC1.out.mono ?_; rintro e w2 ⟨rfl, rfl⟩)
        | (go_at_call 43; refine HC2.out.mono ?_; rintro e w2 ⟨rfl, rfl⟩)
        | (at_builtin
           refine wpList_appB (xs := []) (ys := l) (B := w.heap.size) rfl _ _ 23 rfl Try.underlying23 hi hz0 hz1 hz2 rfl HE.out rfl rfl HR.out (by have := HL.out; simp; omega) HW.out.size ?_
           intro v5 w5 ho5 hg5
           have hb5 := grew_below HW.out HE.out.ge hg5
           rw [List.nil_append] at ho5
           obtain ⟨g, cap5, hv5, hg⟩ := ho5.head (by have := (List.getElem?_eq_some_iff.1 HA.out).1; omega)
           subst hv5
           obtain ⟨_, z5⟩ := ho5.cell_free (m := k) (by have := (List.getElem?_eq_some_iff.1 HA.out).1; omega)
           have y5 := ho5.1.cells (g := g) rfl k (.int .u8 (a.toNat : Int)) (by simp [bytesV, HA.out])
           rw [add_plain] at y5
           have HO5 := Lib.hid (ho5.set k (a ^^^ y))
           have HB5 := Lib.hid hb5
           have HG5 := Lib.hid hg
           clear ho5 hg5 hb5 hg)
        | (go_at_call 41; refine (HP.out _).mono ?_; rintro e w2 ⟨rfl, rfl⟩)
        | (go_at_call 40; refine (alive_wal _).mono ?_; rintro e w6 ⟨rfl, hb⟩
           rw [hX.out] at hb
           have HO6 := Lib.hid (HO5.out.below hb)
           have HY : Hid (Below w.heap.size w w6) := Lib.hid ((HB5.out.trans ((Only.set w5 g k _).below HB5.out.size (fun j e => by have := HG5.out; omega))).trans (hb.mono (by have := HB5.out.size; have := (Only.set w5 g k (.int .u8 ((a ^^^ y).toNat : Int))).size; omega)))
           have HC6 := Lib.hid (check_any (l.set k (a ^^^ y)) (some ⟨g, 0, none⟩) l.length cap5 _ (by rw [List.length_set]) (by rw [List.length_set]; have := HL.out; omega) w6 HO6.out.rd)
           rw [← HT.out] at HC6
           have hne := hnei.out
           have hne2 : ((T : Int) != (S : Int)) = true := by rw [bne, beq_false_of_ne hne]; rfl
           clear hb)
        | (go_at_call 42; refine HC6.out.mono ?_; rintro e w7 ⟨rfl, rfl⟩))
      go_ret
      exact ⟨rfl, HY.out⟩
#print axioms walChecks_law
end Go.Proofs.Ytcofacafnokbpaa
