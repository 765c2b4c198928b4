/- math/bits.Div64: the quotient of 128 bits by 64. -/
import Derived.Test.YtjfbhajaddgmpaaDoorNA
import Derived.Test.YtjfbhajaddgmpaaDoorShelf
namespace Go.Proofs.YtjfbhajaddgmpaaDoor
open Go.RowKit

/-! ### The mathematics: a digit of the quotient -/
/-- the guess q of a digit of N = u * B + d by y = a * B + b: too great just if the test holds -/
theorem dig_test (u d a b q r : Nat) (h : q * a + r = u) : (4294967296 * r + d < q * b ↔ u * 4294967296 + d < q * (a * 4294967296 + b)) := by
  have e : q * (a * 4294967296 + b) = q * a * 4294967296 + q * b := by rw [Nat.mul_add, Nat.mul_assoc]
  rw [e]
  generalize q * a = x at h
  generalize q * b = z
  omega
theorem div_le_of (N y q : Nat) (hy : 0 < y) (h : N < q * y) : N / y < q := (Nat.div_lt_iff_lt_mul hy).2 h
theorem div_eq_of (N y q : Nat) (hy : 0 < y) (h1 : N / y ≤ q) (h2 : ¬ N < q * y) : N / y = q := by
  have : q ≤ N / y := (Nat.le_div_iff_mul_le hy).2 (Nat.not_lt.1 h2)
  omega
theorem dig_lt (u d a b : Nat) (hd : d < 4294967296) (hu : u < a * 4294967296 + b) : (u * 4294967296 + d) / (a * 4294967296 + b) < 4294967296 := by
  refine div_le_of _ _ _ (by omega) ?_
  have : (u + 1) * 4294967296 ≤ (a * 4294967296 + b) * 4294967296 := Nat.mul_le_mul_right _ hu
  rw [Nat.mul_comm 4294967296 (a * 4294967296 + b)]
  omega
/-- the first guess -/
theorem dig_guess (u d a b : Nat) (ha : 0 < a) (hd : d < 4294967296) : (u * 4294967296 + d) / (a * 4294967296 + b) ≤ u / a := by
  rw [Nat.le_div_iff_mul_le ha]
  have h := Nat.div_mul_le_self (u * 4294967296 + d) (a * 4294967296 + b)
  generalize (u * 4294967296 + d) / (a * 4294967296 + b) = q at h ⊢
  rw [Nat.mul_add, ← Nat.mul_assoc] at h
  generalize q * a = x at h ⊢
  generalize q * b = z at h
  omega
theorem dig_most (u a b : Nat) (ha : 2147483648 ≤ a) (hb : b < 4294967296) (hu : u < a * 4294967296 + b) : u / a ≤ 4294967297 := by
  have : u / a < 4294967298 := (Nat.div_lt_iff_lt_mul (by omega)).2 (by omega)
  exact Nat.le_of_lt_succ this
/-- where the rest has grown past a digit, the guess is no more too great -/
theorem dig_done (u d a b q r : Nat) (h : q * a + r = u) (hr : 4294967296 ≤ r) (hq : q ≤ 4294967296) (hb : b < 4294967296) : ¬ u * 4294967296 + d < q * (a * 4294967296 + b) := by
  rw [← dig_test u d a b q r h]
  have : q * b ≤ 4294967296 * b := Nat.mul_le_mul_right _ hq
  omega
set_option maxRecDepth 100000 in
theorem div64_zero (lo y : Nat) (h2 : 0 < y) (h3 : lo < 18446744073709551616) (w : World) : Calls Tryd.prog 56 #[.int .u64 0, .int .u64 lo, .int .u64 y] w (Ans (.tuple #[.int .u64 ((lo / y : Nat) : Int), .int .u64 ((lo % y : Nat) : Int)]) w) := by
  have hd := Nat.div_le_self lo y
  have hm := Nat.mod_le lo y
  have e1 : IntKind.u64.wrap ((lo : Int) / (y : Int)) = (lo : Int) / (y : Int) := by
    rw [← Int.natCast_ediv]
    generalize lo / y = q at hd ⊢
    rw [IntKind.wrap_u64]; omega
  clear hd hm
  have HF : Hid ((lo : Int) / (y : Int) = ((lo / y : Nat) : Int) ∧ (lo : Int) % (y : Int) = ((lo % y : Nat) : Int)) := Lib.hid ⟨(Int.natCast_ediv _ _).symm, (Int.natCast_emod _ _).symm⟩
  go_enter Tryd.func56, Tryd.ntmps56
  go_wp2_with fail
  go_quiet (fail)
  go_wp2_with fail
  exact bodyPost_ret (v := .tuple #[.int .u64 ((lo / y : Nat) : Int), .int .u64 ((lo % y : Nat) : Int)]) (by simp [results, Tryd.results56, go_sem]) rfl ⟨rfl, drewN_below _ _⟩
theorem len64_any (x : Nat) (h : x < 18446744073709551616) (w : World) : Calls Tryd.prog 66 #[.int .u64 x] w fun e w' => e = .returned (.int .i64 (Lib.bitLen x)) ∧ w = w' :=
  (Tryd.bits_Len64 x w (by omega) (by omega)).mono fun _ _ ⟨a, b⟩ => ⟨a, b.symm⟩
theorem bitLen_spec : ∀ (f x : Nat), 0 < x → x < 2 ^ f → f ≤ 64 → Lib.bitLen x ≤ f ∧ x < 2 ^ Lib.bitLen x ∧ 2 ^ Lib.bitLen x ≤ 2 * x
  | 0, x, h0, h1, _ => absurd h1 (by simp; omega)
  | f + 1, x, h0, h1, hf => by
    have hx64 : x < 2 ^ 64 := Nat.lt_of_lt_of_le h1 (Nat.pow_le_pow_right (by decide) hf)
    have hb := Lib.bitLen_half x (by omega) hx64
    by_cases hx : x = 1
    · subst hx
      have : Lib.bitLen 1 = 1 := by decide
      rw [this]; refine ⟨by omega, by decide, by decide⟩
    · obtain ⟨i1, i2, i3⟩ := bitLen_spec f (x / 2) (by omega) (by rw [Nat.pow_succ] at h1; omega) (by omega)
      have e : 2 ^ Lib.bitLen x = 2 * 2 ^ Lib.bitLen (x / 2) := by rw [hb, Nat.add_comm, Nat.pow_succ, Nat.mul_comm]
      refine ⟨by omega, ?_, ?_⟩ <;> rw [e] <;> omega
/-- how far a divisor is moved up -/
theorem shift_up (y : Nat) (h0 : 0 < y) (h1 : y < 18446744073709551616) : ∃ s : Nat, s ≤ 63 ∧ (s : Int) = 64 - (Lib.bitLen y : Int) ∧ 9223372036854775808 ≤ y * 2 ^ s ∧ y * 2 ^ s < 18446744073709551616 := by
  obtain ⟨i1, i2, i3⟩ := bitLen_spec 64 y h0 h1 (by omega)
  have hp : 0 < Lib.bitLen y := by
    rcases Nat.eq_zero_or_pos (Lib.bitLen y) with e | e
    · rw [e] at i2; simp at i2; omega
    · exact e
  have e : 2 ^ Lib.bitLen y * 2 ^ (64 - Lib.bitLen y) = 2 ^ 64 := by rw [← Nat.pow_add]; congr 1; omega
  refine ⟨64 - Lib.bitLen y, by omega, by omega, ?_, ?_⟩
  · have : 2 ^ Lib.bitLen y * 2 ^ (64 - Lib.bitLen y) ≤ 2 * y * 2 ^ (64 - Lib.bitLen y) := Nat.mul_le_mul_right _ i3
    rw [e, Nat.mul_assoc] at this
    omega
  · have : y * 2 ^ (64 - Lib.bitLen y) < 2 ^ Lib.bitLen y * 2 ^ (64 - Lib.bitLen y) := Nat.mul_lt_mul_of_pos_right i2 (Nat.two_pow_pos _)
    rw [e] at this
    exact this
theorem lead64_any (y s : Nat) (h1 : y < 18446744073709551616) (hs : (s : Int) = 64 - (Lib.bitLen y : Int)) (w : World) : Calls Tryd.prog 62 #[.int .u64 y] w fun e w' => e = .returned (.int .i64 (s : Int)) ∧ w = w' := by
  have HL := Lib.hid (len64_any y h1)
  have hb : (Lib.bitLen y : Int) ≤ 64 := by omega
  have HS := Lib.hid hs
  clear h1 hs
  go_enter Tryd.func62, Tryd.ntmps62
  go_wp2_with (go_at_call 66; refine (HL.out _).mono ?_; rintro e w2 ⟨rfl, rfl⟩)
  go_ret
  exact ⟨ret_int HS.out.symm, rfl⟩
/-- two numbers that share no bit -/
theorem or_add (x b s : Nat) (hs : s ≤ 63) (hb : b < 2 ^ s) (hx : x * 2 ^ s < 18446744073709551616) : bits .or .u64 ((x * 2 ^ s : Nat) : Int) (b : Int) = ((x * 2 ^ s + b : Nat) : Int) := by
  have e : x * 2 ^ s ||| b = x * 2 ^ s + b := by rw [Nat.mul_comm]; exact (Nat.two_pow_add_eq_or_of_lt hb x).symm
  have hb64 : b < 18446744073709551616 := Nat.lt_of_lt_of_le hb (Nat.pow_le_pow_right (n := 2) (by decide) (show s ≤ 64 by omega))
  have hlt : x * 2 ^ s ||| b < 2 ^ 64 := Nat.or_lt_two_pow hx hb64
  show IntKind.u64.wrap ((BitVec.ofInt 64 ((x * 2 ^ s : Nat) : Int) ||| BitVec.ofInt 64 (b : Int)).toNat : Int) = _
  have h1 : (BitVec.ofInt 64 ((x * 2 ^ s : Nat) : Int)).toNat = x * 2 ^ s := by
    rw [BitVec.ofInt_natCast, BitVec.toNat_ofNat]; exact Nat.mod_eq_of_lt hx
  have h2 : (BitVec.ofInt 64 (b : Int)).toNat = b := by
    rw [BitVec.ofInt_natCast, BitVec.toNat_ofNat]; exact Nat.mod_eq_of_lt hb64
  rw [BitVec.toNat_or, h1, h2, e, IntKind.wrap_u64]
  rw [e] at hlt
  generalize x * 2 ^ s + b = z at hlt ⊢
  omega
end Go.Proofs.YtjfbhajaddgmpaaDoor
