/- x ^ 1<<63, as numbers. -/
import Derived.Test.YtjnjolhokcmmhaaKPA
namespace Go.Proofs.Ytjnjolhokcmmhaa
open Go.RowKit

theorem xor63 {v : Nat} (h : v < 2 ^ 63) : v ^^^ 2 ^ 63 = 2 ^ 63 + v := by
  apply Nat.eq_of_testBit_eq
  intro i
  rw [Nat.testBit_xor, Nat.testBit_two_pow]
  by_cases h1 : i = 63
  · subst h1
    rw [Nat.testBit_two_pow_add_eq, Nat.testBit_lt_two_pow h]
    simp
  · by_cases h2 : i < 63
    · rw [Nat.testBit_two_pow_add_gt h2]
      simp [Ne.symm h1]
    · have h3 : v < 2 ^ i := Nat.lt_of_lt_of_le h (Nat.pow_le_pow_right (by omega) (by omega))
      have h4 : 2 ^ 63 + v < 2 ^ i := by
        have h5 : 2 ^ 64 ≤ 2 ^ i := Nat.pow_le_pow_right (by omega) (by omega)
        omega
      rw [Nat.testBit_lt_two_pow h3, Nat.testBit_lt_two_pow h4]
      simp [Ne.symm h1]
theorem xor63' {u : Nat} (h : u < 2 ^ 64) (h2 : 2 ^ 63 ≤ u) : u ^^^ 2 ^ 63 = u - 2 ^ 63 := by
  obtain ⟨v, rfl⟩ : ∃ v, u = 2 ^ 63 + v := ⟨u - 2 ^ 63, by omega⟩
  rw [← xor63 (by omega), Nat.xor_assoc, Nat.xor_self, Nat.xor_zero, xor63 (by omega)]
  omega
theorem off_xor {n : Int} (h : i64ok n) : bits .xor .u64 (IntKind.u64.wrap n) 9223372036854775808 = (offN n : Int) := by
  obtain ⟨a, b⟩ := h
  obtain ⟨m, hm⟩ : ∃ m : Nat, (m : Int) = n % 18446744073709551616 := ⟨(n % 18446744073709551616).toNat, by omega⟩
  have hm64 : m < 18446744073709551616 := by omega
  have hw : IntKind.u64.wrap n = (m : Int) := by rw [IntKind.wrap_u64]; omega
  rw [hw]
  have h1 : (BitVec.ofInt 64 (m : Int)).toNat = m := by rw [BitVec.toNat_ofInt]; simp; omega
  have h2 : (BitVec.ofInt 64 9223372036854775808).toNat = 2 ^ 63 := by decide
  show IntKind.u64.wrap (((BitVec.ofInt 64 (m : Int)) ^^^ (BitVec.ofInt 64 9223372036854775808)).toNat : Int) = _
  rw [BitVec.toNat_xor, h1, h2, IntKind.wrap_u64]
  unfold offN
  rcases Nat.lt_or_ge m (2 ^ 63) with h3 | h3
  · rw [xor63 h3]
    omega
  · rw [xor63' (by omega) h3]
    omega
end Go.Proofs.Ytjnjolhokcmmhaa
