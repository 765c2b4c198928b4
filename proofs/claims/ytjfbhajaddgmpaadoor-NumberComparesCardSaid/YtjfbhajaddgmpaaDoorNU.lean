/- Numbers stand in one line: by what they represent. -/
import Derived.Test.YtjfbhajaddgmpaaDoorNQ
namespace Go.Proofs.YtjfbhajaddgmpaaDoor
open Go.RowKit

/-- ten thousand times what a number represents -/
def scal (k n : Int) : Int := if k = 3 then n else n * 10000
theorem parts3 (n : Int) : n = wholeI 3 n * 10000 + restI 3 n ∧ -10000 < restI 3 n ∧ restI 3 n < 10000 ∧ (0 ≤ n → 0 ≤ wholeI 3 n ∧ 0 ≤ restI 3 n) ∧ (n ≤ 0 → wholeI 3 n ≤ 0 ∧ restI 3 n ≤ 0) := by
  have e1 : wholeI 3 n = n.tdiv 10000 := rfl
  have e2 : restI 3 n = n.tmod 10000 := rfl
  have h := Int.mul_tdiv_add_tmod n 10000
  rw [e1, e2]
  refine ⟨by omega, ?_, ?_, fun h0 => ⟨Int.tdiv_nonneg h0 (by omega), Int.tmod_nonneg _ h0⟩, fun h0 => ?_⟩
  · have h1 := Int.natAbs_tmod n 10000
    have h2 : n.natAbs % (10000 : Int).natAbs = n.natAbs % 10000 := rfl
    rw [h2] at h1
    have h3 := Nat.mod_lt n.natAbs (show 10000 > 0 by omega)
    omega
  · have h1 := Int.natAbs_tmod n 10000
    have h2 : n.natAbs % (10000 : Int).natAbs = n.natAbs % 10000 := rfl
    rw [h2] at h1
    have h3 := Nat.mod_lt n.natAbs (show 10000 > 0 by omega)
    omega
  · have h1 := Int.tdiv_nonneg (a := -n) (b := 10000) (by omega) (by omega)
    have h2 := Int.tmod_nonneg (a := -n) 10000 (by omega)
    rw [Int.neg_tdiv] at h1
    rw [Int.neg_tmod] at h2
    omega
theorem parts2 (n : Int) : wholeI 2 n = n ∧ restI 2 n = 0 := ⟨Int.tdiv_one n, Int.tmod_one n⟩
theorem cmp_or (a b c d x y : Int) (h1 : a < b → x < y) (h2 : b < a → y < x) (h3 : a = b → c < d → x < y) (h4 : a = b → d < c → y < x) (h5 : a = b → c = d → x = y) : or2I (cmpI a b) (cmpI c d) = cmpI x y := by
  rcases Int.lt_trichotomy a b with h | h | h
  · rw [cmpI_lt h, cmpI_lt (h1 h)]; rfl
  · rw [cmpI_eq h]
    rcases Int.lt_trichotomy c d with g | g | g
    · rw [cmpI_lt g, cmpI_lt (h3 h g)]; rfl
    · rw [cmpI_eq g, cmpI_eq (h5 h g)]; rfl
    · rw [cmpI_gt g, cmpI_gt (h4 h g)]; rfl
  · rw [cmpI_gt h, cmpI_gt (h2 h)]; rfl
theorem sign_scal (k n j m : Int) (hk : k = 2 ∨ k = 3) (hj : j = 2 ∨ j = 3) : signN k n j m = cmpI (scal k n) (scal j m) := by
  unfold signN
  have s2 : ∀ x, scal 2 x = x * 10000 := fun x => rfl
  have s3 : ∀ x, scal 3 x = x := fun x => rfl
  rcases hk with rfl | rfl <;> rcases hj with rfl | rfl
  · obtain ⟨a1, a2⟩ := parts2 n
    obtain ⟨b1, b2⟩ := parts2 m
    rw [a1, a2, b1, b2, s2, s2]
    exact cmp_or _ _ _ _ _ _ (by omega) (by omega) (by omega) (by omega) (by omega)
  · obtain ⟨a1, a2⟩ := parts2 n
    obtain ⟨b1, b2, b3, b4, b5⟩ := parts3 m
    rw [a1, a2, s2, s3]
    generalize wholeI 3 m = q at *
    generalize restI 3 m = r at *
    exact cmp_or _ _ _ _ _ _ (by omega) (by omega) (by omega) (by omega) (by omega)
  · obtain ⟨a1, a2⟩ := parts2 m
    obtain ⟨b1, b2, b3, b4, b5⟩ := parts3 n
    rw [a1, a2, s2, s3]
    generalize wholeI 3 n = q at *
    generalize restI 3 n = r at *
    exact cmp_or _ _ _ _ _ _ (by omega) (by omega) (by omega) (by omega) (by omega)
  · obtain ⟨a1, a2, a3, a4, a5⟩ := parts3 n
    obtain ⟨b1, b2, b3, b4, b5⟩ := parts3 m
    rw [s3, s3]
    generalize wholeI 3 n = q at *
    generalize restI 3 n = r at *
    generalize wholeI 3 m = q' at *
    generalize restI 3 m = r' at *
    exact cmp_or _ _ _ _ _ _ (by omega) (by omega) (by omega) (by omega) (by omega)
end Go.Proofs.YtjfbhajaddgmpaaDoor
