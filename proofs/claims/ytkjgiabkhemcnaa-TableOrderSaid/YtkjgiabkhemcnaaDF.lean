/- Package disk: Power. -/
import Derived.Test.YtkjgiabkhemcnaaDE
namespace Go.Proofs.Ytkjgiabkhemcnaa
open Go.RowKit

/-- which of n a raw number speaks of -/
def pickZ (c : Int) (n : Nat) : Nat := ((if c < 0 then -(c + 1) else c) % (n : Int)).toNat
theorem pickZ_lt (c : Int) {n : Nat} (h : 0 < n) : pickZ c n < n := by
  unfold pickZ
  have h1 := Int.emod_nonneg (if c < 0 then -(c + 1) else c) (b := (n : Int)) (by omega)
  have h2 := Int.emod_lt_of_pos (if c < 0 then -(c + 1) else c) (b := (n : Int)) (by omega)
  omega
theorem pick_neg {c : Int} {s d e : Nat} (h : c < 0) (h1 : -9223372036854775808 ≤ c) (hd : d ≤ 100000) (hs : s ≤ 100000) (he : e = s + pickZ c (d + 1)) : wrap64 ((s : Int) + -(c + 1).tmod ((d : Int) + 1)) = (e : Int) := by
  subst he
  have h2 : -(c + 1).tmod ((d : Int) + 1) = (pickZ c (d + 1) : Int) := by
    rw [← Int.neg_tmod, Int.tmod_eq_emod_of_nonneg (by omega)]
    unfold pickZ
    rw [if_pos h]
    have := Int.emod_nonneg (-(c + 1)) (b := ((d + 1 : Nat) : Int)) (by omega)
    rw [Int.toNat_of_nonneg this]
    simp
  have h3 := pickZ_lt c (n := d + 1) (by omega)
  rw [h2]
  have e : wrap64 ((s : Int) + (pickZ c (d + 1) : Int)) = (s : Int) + (pickZ c (d + 1) : Int) := by
    unfold wrap64
    omega
  rw [e]
  simp
theorem pick_pos {c : Int} {s d e : Nat} (h : ¬ c < 0) (hd : d ≤ 100000) (hs : s ≤ 100000) (he : e = s + pickZ c (d + 1)) : wrap64 ((s : Int) + c % ((d : Int) + 1)) = (e : Int) := by
  subst he
  have h2 : c % ((d : Int) + 1) = (pickZ c (d + 1) : Int) := by
    unfold pickZ
    rw [if_neg h]
    have := Int.emod_nonneg c (b := ((d + 1 : Nat) : Int)) (by omega)
    rw [Int.toNat_of_nonneg this]
    simp
  have h3 := pickZ_lt c (n := d + 1) (by omega)
  rw [h2]
  have e : wrap64 ((s : Int) + (pickZ c (d + 1) : Int)) = (s : Int) + (pickZ c (d + 1) : Int) := by
    unfold wrap64
    omega
  rw [e]
  simp
end Go.Proofs.Ytkjgiabkhemcnaa
