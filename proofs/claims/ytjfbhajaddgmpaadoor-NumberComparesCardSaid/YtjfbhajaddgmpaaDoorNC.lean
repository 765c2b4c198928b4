/- math/bits.Div64 at a high word that is not zero. -/
import Derived.Test.YtjfbhajaddgmpaaDoorNB
import Derived.Deep.DeepCutAuto
import Derived.Deep.CutBlock
namespace Go.Proofs.YtjfbhajaddgmpaaDoor
open Go.RowKit Go.Shelf

/-- what a digit's loop keeps -/
def DR (u d a b : Nat) (v r : Value) : Prop := ∃ q p : Nat, v = .int .u64 q ∧ r = .int .u64 p ∧ Hid (q * a + p = u) ∧ p < 4294967296 ∧ q ≤ 4294967297 ∧ Hid ((u * 4294967296 + d) / (a * 4294967296 + b) ≤ q)
theorem u64_val {a b : Int} (h : a = b) : Value.int .u64 a = Value.int .u64 b := by rw [h]
theorem dig_down (u a q p : Nat) (hq : 0 < q) (h : q * a + p = u) : (q - 1) * a + (p + a) = u := by
  have : (q - 1) * a + a = q * a := by rw [← Nat.succ_mul]; congr 1; omega
  omega
theorem dig_fin (u d a b q r : Nat) (h : q * a + r = u) (hr : 4294967296 ≤ r) (hq : q ≤ 4294967296) (hb : b < 4294967296) (hge : (u * 4294967296 + d) / (a * 4294967296 + b) ≤ q) (hy : 0 < a * 4294967296 + b) : q = (u * 4294967296 + d) / (a * 4294967296 + b) :=
  (div_eq_of _ _ _ hy hge (dig_done u d a b q r h hr hq hb)).symm
theorem wrapU {n : Nat} (h : n < 18446744073709551616) : IntKind.u64.wrap (n : Int) = (n : Int) := by rw [IntKind.wrap_u64]; omega
theorem castPow (x s : Nat) : (x : Int) * 2 ^ s = ((x * 2 ^ s : Nat) : Int) := by rw [Int.natCast_mul, Int.natCast_pow]; rfl
theorem castDiv (x s : Nat) : (x : Int) / 2 ^ s = ((x / 2 ^ s : Nat) : Int) := by rw [Int.natCast_ediv, Int.natCast_pow]; rfl
/-- the first guess and its rest, as the code reckons them -/
theorem guess_q (u a : Nat) (h : u < 18446744073709551616) : IntKind.u64.wrap ((u : Int) / (a : Int)) = ((u / a : Nat) : Int) := by
  rw [← Int.natCast_ediv]
  have := Nat.div_le_self u a
  exact wrapU (by omega)
theorem guess_r (u a : Nat) (h : u < 18446744073709551616) : IntKind.u64.wrap ((u : Int) - IntKind.u64.wrap (((u / a : Nat) : Int) * (a : Int))) = ((u % a : Nat) : Int) := by
  have h1 := Nat.div_mul_le_self u a
  have h2 := Nat.div_add_mod u a
  rw [Nat.mul_comm] at h2
  rw [← Int.natCast_mul]
  generalize u / a * a = z at *
  generalize u % a = y at *
  rw [IntKind.wrap_u64, IntKind.wrap_u64]
  omega
theorem guess_DR (u d a b : Nat) (ha : 2147483648 ≤ a) (ha2 : a < 4294967296) (hb : b < 4294967296) (hd : d < 4294967296) (hu : u < a * 4294967296 + b) : DR u d a b (.int .u64 ((u / a : Nat) : Int)) (.int .u64 ((u % a : Nat) : Int)) := by
  have h2 := Nat.div_add_mod u a
  rw [Nat.mul_comm] at h2
  have h3 := Nat.mod_lt u (show a > 0 by omega)
  exact ⟨u / a, u % a, rfl, rfl, Lib.hid h2, by omega, dig_most u a b ha hb hu, Lib.hid (dig_guess u d a b (by omega) hd)⟩
/-- what is left behind the first digit, as the code reckons it -/
theorem rest_eq (u d Y : Nat) : IntKind.u64.wrap (IntKind.u64.wrap (IntKind.u64.wrap ((u : Int) * 4294967296) + (d : Int)) - IntKind.u64.wrap (((( u * 4294967296 + d) / Y : Nat) : Int) * (Y : Int))) = (((u * 4294967296 + d) % Y % 18446744073709551616 : Nat) : Int) := by
  have h1 := Nat.div_mul_le_self (u * 4294967296 + d) Y
  have h2 := Nat.div_add_mod (u * 4294967296 + d) Y
  rw [Nat.mul_comm] at h2
  rw [← Int.natCast_mul]
  generalize (u * 4294967296 + d) / Y * Y = z at *
  generalize (u * 4294967296 + d) % Y = y at *
  simp only [IntKind.wrap_u64]
  omega
/-- the number, moved up, in two words -/
theorem up_words (hi lo s : Nat) (hs : s ≤ 63) (_h1 : lo < 18446744073709551616) : (hi * 18446744073709551616 + lo) * 2 ^ s = (hi * 2 ^ s + lo / 2 ^ (64 - s)) * 18446744073709551616 + lo * 2 ^ s % 18446744073709551616 := by
  have e : 18446744073709551616 = 2 ^ (64 - s) * 2 ^ s := by rw [← Nat.pow_add]; rw [show 64 - s + s = 64 by omega]
  have e2 : lo * 2 ^ s / 18446744073709551616 = lo / 2 ^ (64 - s) := by
    rw [e]; exact Nat.mul_div_mul_right _ _ (Nat.two_pow_pos s)
  have e3 := Nat.div_add_mod (lo * 2 ^ s) 18446744073709551616
  rw [e2] at e3
  rw [Nat.add_mul, Nat.add_mul, Nat.mul_assoc hi, Nat.mul_assoc hi, Nat.mul_comm (2 ^ s) 18446744073709551616]
  omega
theorem lowW_lt (lo s : Nat) (hs : s ≤ 63) (h1 : lo < 18446744073709551616) : lo / 2 ^ (64 - s) < 2 ^ s := by
  rw [Nat.div_lt_iff_lt_mul (Nat.two_pow_pos _), ← Nat.pow_add, show s + (64 - s) = 64 by omega]
  exact h1
theorem up_lt (hi lo y s : Nat) (h1 : lo < 18446744073709551616) (h2 : hi < y) : (hi * 18446744073709551616 + lo) * 2 ^ s < y * 2 ^ s * 18446744073709551616 := by
  rw [Nat.mul_assoc y, Nat.mul_comm (2 ^ s) 18446744073709551616, ← Nat.mul_assoc]
  exact Nat.mul_lt_mul_of_pos_right (by omega) (Nat.two_pow_pos s)
/-- two digits are the quotient -/
theorem two_digitsB (B u d1 d0 Y : Nat) (hY : 0 < Y) : (u * B + d1) / Y * B + ((u * B + d1) % Y * B + d0) / Y = (u * (B * B) + (d1 * B + d0)) / Y := by
  have h := Nat.div_add_mod (u * B + d1) Y
  obtain ⟨q, hq⟩ : ∃ q, q = (u * B + d1) / Y := ⟨_, rfl⟩
  obtain ⟨v, hv⟩ : ∃ v, v = (u * B + d1) % Y := ⟨_, rfl⟩
  rw [← hq, ← hv] at h ⊢
  have e : u * (B * B) + (d1 * B + d0) = Y * (q * B) + (v * B + d0) := by
    rw [← Nat.mul_assoc, ← Nat.mul_assoc, ← Nat.add_assoc, ← Nat.add_assoc, ← Nat.add_mul, ← Nat.add_mul, h]
  rw [e, Nat.mul_add_div hY]
theorem two_digits (u d1 d0 Y : Nat) (hY : 0 < Y) : (u * 4294967296 + d1) / Y * 4294967296 + ((u * 4294967296 + d1) % Y * 4294967296 + d0) / Y = (u * 18446744073709551616 + (d1 * 4294967296 + d0)) / Y :=
  two_digitsB 4294967296 u d1 d0 Y hY
set_option maxRecDepth 100000 in
set_option maxHeartbeats 4000000 in
theorem div64_more (hi lo y : Nat) (h0 : 0 < hi) (h1 : lo < 18446744073709551616) (h2 : hi < y) (h3 : y < 18446744073709551616) (w : World) : Calls Tryd.prog 56 #[.int .u64 hi, .int .u64 lo, .int .u64 y] w
    fun e w' => Below w.heap.size w w' ∧ ∃ r : Int, e = .returned (.tuple #[.int .u64 (((hi * 18446744073709551616 + lo) / y : Nat) : Int), .int .u64 r]) := by
  obtain ⟨s, hs63, hs, hY1, hY2⟩ := shift_up y (by omega) h3
  have HL := Lib.hid (lead64_any y s h3 hs)
  have hsi : (s : Int) ≤ 63 := by omega
  -- the divisor
  obtain ⟨Y, hY⟩ : ∃ Y : Nat, Hid (Y = y * 2 ^ s) := ⟨_, Lib.hid rfl⟩
  have e1 : IntKind.u64.wrap ((y : Int) * 2 ^ s) = (Y : Int) := by rw [castPow, ← hY.out]; exact wrapU (by rw [hY.out]; exact hY2)
  rw [← hY.out] at hY1 hY2
  obtain ⟨a, ha⟩ : ∃ a : Nat, Hid (a = Y / 4294967296) := ⟨_, Lib.hid rfl⟩
  obtain ⟨b, hb⟩ : ∃ b : Nat, Hid (b = Y % 4294967296) := ⟨_, Lib.hid rfl⟩
  have e2 : (Y : Int) / 4294967296 = (a : Int) := by rw [ha.out]; omega
  have e3 : bits .and .u64 (Y : Int) 4294967295 = (b : Int) := by rw [hb.out]; exact Mul64.maskN Y hY2
  have HY : Hid (Y = a * 4294967296 + b) := Lib.hid (by rw [ha.out, hb.out]; omega)
  have al : (2147483648 : Int) ≤ (a : Int) := by rw [ha.out]; omega
  have ai : (a : Int) < 4294967296 := by rw [ha.out]; omega
  have bi : (b : Int) < 4294967296 := by rw [hb.out]; omega
  have a0 : (0 : Int) < (a : Int) := by omega
  have a1 : ((a : Int) == 0) = false := by simp; omega
  -- the number
  obtain ⟨u, hu⟩ : ∃ u : Nat, Hid (u = hi * 2 ^ s + lo / 2 ^ (64 - s)) := ⟨_, Lib.hid rfl⟩
  obtain ⟨L, hL⟩ : ∃ L : Nat, Hid (L = lo * 2 ^ s % 18446744073709551616) := ⟨_, Lib.hid rfl⟩
  have HD : Hid ((hi * 18446744073709551616 + lo) * 2 ^ s = u * 18446744073709551616 + L) := Lib.hid (by rw [hu.out, hL.out]; exact up_words hi lo s hs63 h1)
  have L64 : L < 18446744073709551616 := by rw [hL.out]; exact Nat.mod_lt _ (by omega)
  have HU : Hid (u < Y) := Lib.hid (by have h4 := up_lt hi lo y s h1 h2; rw [HD.out, ← hY.out] at h4; omega)
  have hx : hi * 2 ^ s < 18446744073709551616 := by have h5 : hi * 2 ^ s ≤ u := by rw [hu.out]; exact Nat.le_add_right _ _
                                                    have := HU.out; omega
  have e5 : bits .or .u64 (IntKind.u64.wrap ((hi : Int) * 2 ^ s)) ((lo : Int) / 2 ^ (64 - s)) = (u : Int) := by rw [castPow, castDiv, wrapU hx, hu.out]; exact or_add hi _ s hs63 (lowW_lt lo s hs63 h1) hx
  have e6 : IntKind.u64.wrap ((lo : Int) * 2 ^ s) = (L : Int) := by rw [castPow, hL.out, IntKind.wrap_u64]; generalize lo * 2 ^ s = z; omega
  have y0 : (0 : Int) < y := by omega
  have hy : (hi : Int) < y := by omega
  have hi0 : (0 : Int) < hi := by omega
  obtain ⟨d1, hd1⟩ : ∃ d : Nat, Hid (d = L / 4294967296) := ⟨_, Lib.hid rfl⟩
  obtain ⟨d0, hd0⟩ : ∃ d : Nat, Hid (d = L % 4294967296) := ⟨_, Lib.hid rfl⟩
  have e7 : (L : Int) / 4294967296 = (d1 : Int) := by rw [hd1.out]; omega
  have e8 : bits .and .u64 (L : Int) 4294967295 = (d0 : Int) := by rw [hd0.out]; exact Mul64.maskN L L64
  have di : (d1 : Int) < 4294967296 := by rw [hd1.out]; omega
  have di0 : (d0 : Int) < 4294967296 := by rw [hd0.out]; omega
  have HLd : Hid (L = d1 * 4294967296 + d0) := Lib.hid (by rw [hd1.out, hd0.out]; omega)
  -- the first digit
  have hu64 : u < 18446744073709551616 := by have := HU.out; omega
  have hua : u < a * 4294967296 + b := by rw [← HY.out]; exact HU.out
  obtain ⟨q1, hq1⟩ : ∃ q : Nat, Hid (q = u / a) := ⟨_, Lib.hid rfl⟩
  have e9 : IntKind.u64.wrap ((u : Int) / (a : Int)) = (q1 : Int) := by rw [hq1.out]; exact guess_q u a hu64
  obtain ⟨r1, hr1⟩ : ∃ r : Nat, Hid (r = u % a) := ⟨_, Lib.hid rfl⟩
  have e10 : IntKind.u64.wrap ((u : Int) - IntKind.u64.wrap ((q1 : Int) * (a : Int))) = (r1 : Int) := by rw [hq1.out, hr1.out]; exact guess_r u a hu64
  have HF : Hid (DR u d1 a b (.int .u64 q1) (.int .u64 r1)) := Lib.hid (by rw [hq1.out, hr1.out]; exact guess_DR u d1 a b (by omega) (by omega) (by omega) (by omega) hua)
  have HQ : Hid ((u * 4294967296 + d1) / (a * 4294967296 + b) < 4294967296) := Lib.hid (dig_lt u d1 a b (by omega) hua)
  obtain ⟨Q1, hQ1⟩ : ∃ q : Nat, Hid (q = (u * 4294967296 + d1) / (a * 4294967296 + b)) := ⟨_, Lib.hid rfl⟩
  have Qi : (Q1 : Int) < 4294967296 := by have := HQ.out; rw [← hQ1.out] at this; omega
  -- the second digit
  obtain ⟨v, hv⟩ : ∃ v : Nat, Hid (v = (u * 4294967296 + d1) % (a * 4294967296 + b)) := ⟨_, Lib.hid rfl⟩
  have hva : v < a * 4294967296 + b := by rw [hv.out]; exact Nat.mod_lt _ (by omega)
  have hv64 : v < 18446744073709551616 := by omega
  have e11 : IntKind.u64.wrap (IntKind.u64.wrap (IntKind.u64.wrap ((u : Int) * 4294967296) + (d1 : Int)) - IntKind.u64.wrap ((Q1 : Int) * (Y : Int))) = (v : Int) := by
    have h6 := rest_eq u d1 Y
    rw [hQ1.out, ← HY.out, h6, ← (show v = (u * 4294967296 + d1) % Y by rw [hv.out, ← HY.out])]
    omega
  obtain ⟨q2, hq2⟩ : ∃ q : Nat, Hid (q = v / a) := ⟨_, Lib.hid rfl⟩
  have e12 : IntKind.u64.wrap ((v : Int) / (a : Int)) = (q2 : Int) := by rw [hq2.out]; exact guess_q v a hv64
  obtain ⟨r2, hr2⟩ : ∃ r : Nat, Hid (r = v % a) := ⟨_, Lib.hid rfl⟩
  have e13 : IntKind.u64.wrap ((v : Int) - IntKind.u64.wrap ((q2 : Int) * (a : Int))) = (r2 : Int) := by rw [hq2.out, hr2.out]; exact guess_r v a hv64
  have HF2 : Hid (DR v d0 a b (.int .u64 q2) (.int .u64 r2)) := Lib.hid (by rw [hq2.out, hr2.out]; exact guess_DR v d0 a b (by omega) (by omega) (by omega) (by omega) hva)
  have HQ2 : Hid ((v * 4294967296 + d0) / (a * 4294967296 + b) < 4294967296) := Lib.hid (dig_lt v d0 a b (by omega) hva)
  obtain ⟨Q2, hQ2⟩ : ∃ q : Nat, Hid (q = (v * 4294967296 + d0) / (a * 4294967296 + b)) := ⟨_, Lib.hid rfl⟩
  have Q2i : (Q2 : Int) < 4294967296 := by have := HQ2.out; rw [← hQ2.out] at this; omega
  have HE : Hid ((hi * 18446744073709551616 + lo) / y = Q1 * 4294967296 + Q2) := Lib.hid (by
    rw [hQ1.out, hQ2.out, hv.out, ← HY.out, two_digits u d1 d0 Y (by omega), ← HLd.out, ← HD.out, hY.out]
    exact (Nat.mul_div_mul_right _ _ (Nat.two_pow_pos s)).symm)
  rw [HE.out]
  have e14 : IntKind.u64.wrap ((Q1 : Int) * 4294967296) = (Q1 : Int) * 4294967296 := by rw [IntKind.wrap_u64]; omega
  have e15 : IntKind.u64.wrap ((Q1 : Int) * 4294967296 + (Q2 : Int)) = ((Q1 * 4294967296 + Q2 : Nat) : Int) := by rw [IntKind.wrap_u64]; omega
  have HN := Lib.hid (And.intro al (And.intro ai (And.intro bi (And.intro di (And.intro di0 (And.intro Qi Q2i))))))
  clear al ai bi di di0 Qi Q2i
  clear hs h0 h1 h2 h3 hY1 hY2 L64 hx hs63 hu64 hv64 hua hva
  go_enter Tryd.func56, Tryd.ntmps56
  go_upto_block 0 with (go_at_call 62; refine (HL.out _).mono ?_; rintro e w2 ⟨rfl, rfl⟩)
  go_cut [15] (fun v15 wx => v15 = .int .u64 Q1 ∧ w = wx)
  case first =>
    obtain ⟨al, ai, bi, di, di0, Qi, Q2i⟩ := HN.out
    clear e1 e2 e3 e5 e6 e7 e8 e9 e10 e11 e12 e13 e14 e15 hi0 hy y0 hsi
    go_wp2_with fail
    go_loop [15, 16] (fun vq vr => DR u d1 a b vq vr) (fun vq vr => (intOf vq).toNat)
    case atStart => exact HF.out
    case round =>
      obtain ⟨q, p, rfl, rfl, H1, hp, hq, hge⟩ := hrel
      have qi : (q : Int) ≤ 4294967297 := by omega
      have pi : (p : Int) < 4294967296 := by omega
      clear hp hq
      by_cases hB : (4294967296 : Int) ≤ q
      · have LT : Hid ((u * 4294967296 + d1) / (a * 4294967296 + b) < q) := Lib.hid (by have := HQ.out; omega)
        clear hge
        have fin := Lib.hid (dig_down u a q p (by omega) H1.out)
        by_cases hr : (4294967296 : Int) ≤ (p : Int) + a
        · go_wp2_with fail
          go_meet
          exact ⟨u64_val (by have h1 := dig_fin u d1 a b (q - 1) (p + a) fin.out (by omega) (by omega) (by omega) (by have := LT.out; omega) (by omega); rw [hQ1.out, ← h1]; omega), rfl⟩
        · go_wp2_with fail
          go_round
          case rel => exact ⟨q - 1, p + a, u64_val (by omega), u64_val (by omega), Lib.hid fin.out, by omega, by omega, Lib.hid (by have := LT.out; omega)⟩
          case measure => simp [intOf]; omega
      · have hqb : Hid (q * b < 18446744073709551616) := Lib.hid (by have h1 : q * b ≤ 4294967295 * 4294967295 := Nat.mul_le_mul (by omega) (by omega); omega)
        obtain ⟨m, hm⟩ : ∃ m : Nat, Hid (m = q * b) := ⟨_, Lib.hid rfl⟩
        have hw : IntKind.u64.wrap ((q : Int) * (b : Int)) = (m : Int) := by rw [hm.out, ← Int.natCast_mul, IntKind.wrap_u64]; have := hqb.out; generalize q * b = z at this ⊢; omega
        by_cases ht : 4294967296 * (p : Int) + d1 < (m : Int)
        · have LT : Hid ((u * 4294967296 + d1) / (a * 4294967296 + b) < q) := Lib.hid (div_le_of _ _ _ (by omega) ((dig_test u d1 a b q p H1.out).1 (by rw [← hm.out]; omega)))
          have q0 : 0 < (q : Int) := by have := Nat.lt_of_le_of_lt (Nat.zero_le _) LT.out; omega
          clear hge hqb
          have fin := Lib.hid (dig_down u a q p (by omega) H1.out)
          by_cases hr : (4294967296 : Int) ≤ (p : Int) + a
          · go_wp2_with fail
            go_meet
            exact ⟨u64_val (by have h1 := dig_fin u d1 a b (q - 1) (p + a) fin.out (by omega) (by omega) (by omega) (by have := LT.out; omega) (by omega); rw [hQ1.out, ← h1]; omega), rfl⟩
          · go_wp2_with fail
            go_round
            case rel => exact ⟨q - 1, p + a, u64_val (by omega), u64_val (by omega), Lib.hid fin.out, by omega, by omega, Lib.hid (by have := LT.out; omega)⟩
            case measure => simp [intOf]; omega
        · have EQ : Hid ((u * 4294967296 + d1) / (a * 4294967296 + b) = q) := Lib.hid (div_eq_of _ _ _ (by omega) hge.out (fun h => ht (by have := (dig_test u d1 a b q p H1.out).2 h; rw [← hm.out] at this; omega)))
          clear hge hqb
          go_wp2_with fail
          go_meet
          exact ⟨u64_val (by rw [hQ1.out, EQ.out]), rfl⟩
  case rest =>
    obtain ⟨rfl, rfl⟩ := hcut
    clear HQ
    have HQ := HQ2
    go_upto_block 2 with fail
    go_cut [18] (fun v18 wx => v18 = .int .u64 Q2 ∧ w = wx)
    case first =>
      obtain ⟨al, ai, bi, di, di0, Qi, Q2i⟩ := HN.out
      clear e1 e2 e3 e5 e6 e7 e8 e9 e10 e11 e12 e13 e14 e15 hi0 hy y0 hsi
      go_wp2_with fail
      go_loop [18, 16] (fun vq vr => DR v d0 a b vq vr) (fun vq vr => (intOf vq).toNat)
      case atStart => exact HF2.out
      case round =>
        obtain ⟨q, p, rfl, rfl, H1, hp, hq, hge⟩ := hrel
        have qi : (q : Int) ≤ 4294967297 := by omega
        have pi : (p : Int) < 4294967296 := by omega
        clear hp hq
        by_cases hB : (4294967296 : Int) ≤ q
        · have LT : Hid ((v * 4294967296 + d0) / (a * 4294967296 + b) < q) := Lib.hid (by have := HQ.out; omega)
          clear hge
          have fin := Lib.hid (dig_down v a q p (by omega) H1.out)
          by_cases hr : (4294967296 : Int) ≤ (p : Int) + a
          · go_wp2_with fail
            go_meet
            exact ⟨u64_val (by have h1 := dig_fin v d0 a b (q - 1) (p + a) fin.out (by omega) (by omega) (by omega) (by have := LT.out; omega) (by omega); rw [hQ2.out, ← h1]; omega), rfl⟩
          · go_wp2_with fail
            go_round
            case rel => exact ⟨q - 1, p + a, u64_val (by omega), u64_val (by omega), Lib.hid fin.out, by omega, by omega, Lib.hid (by have := LT.out; omega)⟩
            case measure => simp [intOf]; omega
        · have hqb : Hid (q * b < 18446744073709551616) := Lib.hid (by have h1 : q * b ≤ 4294967295 * 4294967295 := Nat.mul_le_mul (by omega) (by omega); omega)
          obtain ⟨m, hm⟩ : ∃ m : Nat, Hid (m = q * b) := ⟨_, Lib.hid rfl⟩
          have hw : IntKind.u64.wrap ((q : Int) * (b : Int)) = (m : Int) := by rw [hm.out, ← Int.natCast_mul, IntKind.wrap_u64]; have := hqb.out; generalize q * b = z at this ⊢; omega
          by_cases ht : 4294967296 * (p : Int) + d0 < (m : Int)
          · have LT : Hid ((v * 4294967296 + d0) / (a * 4294967296 + b) < q) := Lib.hid (div_le_of _ _ _ (by omega) ((dig_test v d0 a b q p H1.out).1 (by rw [← hm.out]; omega)))
            have q0 : 0 < (q : Int) := by have := Nat.lt_of_le_of_lt (Nat.zero_le _) LT.out; omega
            clear hge hqb
            have fin := Lib.hid (dig_down v a q p (by omega) H1.out)
            by_cases hr : (4294967296 : Int) ≤ (p : Int) + a
            · go_wp2_with fail
              go_meet
              exact ⟨u64_val (by have h1 := dig_fin v d0 a b (q - 1) (p + a) fin.out (by omega) (by omega) (by omega) (by have := LT.out; omega) (by omega); rw [hQ2.out, ← h1]; omega), rfl⟩
            · go_wp2_with fail
              go_round
              case rel => exact ⟨q - 1, p + a, u64_val (by omega), u64_val (by omega), Lib.hid fin.out, by omega, by omega, Lib.hid (by have := LT.out; omega)⟩
              case measure => simp [intOf]; omega
          · have EQ : Hid ((v * 4294967296 + d0) / (a * 4294967296 + b) = q) := Lib.hid (div_eq_of _ _ _ (by omega) hge.out (fun h => ht (by have := (dig_test v d0 a b q p H1.out).2 h; rw [← hm.out] at this; omega)))
            clear hge hqb
            go_wp2_with fail
            go_meet
            exact ⟨u64_val (by rw [hQ2.out, EQ.out]), rfl⟩
    case rest =>
      obtain ⟨rfl, rfl⟩ := hcut
      go_wp2_with fail
      go_ret2
      exact ⟨Below.refl _ _, _, rfl⟩
end Go.Proofs.YtjfbhajaddgmpaaDoor
