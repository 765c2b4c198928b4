/- The document's Compare at any values, whole. -/
import Derived.Test.YtjfbhajaddgmpaaDoorNCOA
import Derived.Test.YtjfbhajaddgmpaaDoorNCOB
namespace Go.Proofs.YtjfbhajaddgmpaaDoor
open Go.RowKit

/-- the document's answer -/
def refRv : RV → Value
  | .ok k n => .tuple #[.agg #[.int .i64 k, .int .i64 n, .string ⟨#[]⟩], .agg #[.int .i64 0, .int .i64 (-1)]]
  | .bad c p => .tuple #[.agg #[.int .i64 0, .int .i64 0, .string ⟨#[]⟩], .agg #[.int .i64 c, .int .i64 p]]
theorem signP_3 (x y : Val) (kx : knownB x = true) (ky : knownB y = true) : signP x y = -1 ∨ signP x y = 1 := by
  unfold signP
  rw [if_neg (by simp [kx]), if_neg (by simp [ky])]
  split
  · exact .inl rfl
  · split
    · exact .inl rfl
    · exact .inr rfl
theorem refCompare_any (op : Int) (x y : Val) (ox : x.ok) (oy : y.ok) (lx : x.s.size ≤ 9223372036854775807) (ly : y.s.size ≤ 9223372036854775807) (w : World) :
    Calls Tryd.prog 6 #[.int .i64 op, .agg #[.int .i64 x.k, .int .i64 x.n, .string x.s], .agg #[.int .i64 y.k, .int .i64 y.n, .string y.s]] w (Ans (refRv (cmpR op x y)) w) := by
  have RA : ∀ w, Calls Tryd.prog 18 #[.agg #[.int .i64 x.k, .int .i64 x.n, .string x.s]] w (Ans (.bool (rightB x)) w) := fun w => refRight_any x lx w
  have RB : ∀ w, Calls Tryd.prog 18 #[.agg #[.int .i64 y.k, .int .i64 y.n, .string y.s]] w (Ans (.bool (rightB y)) w) := fun w => refRight_any y ly w
  unfold cmpR
  by_cases h8 : op < 8
  · rw [if_pos (.inl h8)]; exact refC_lo _ _ _ _ _ _ _ h8 w
  by_cases h13 : 13 < op
  · rw [if_pos (.inr h13)]; exact refC_hi _ _ _ _ _ _ _ h8 h13 w
  rw [if_neg (by omega)]
  cases hx : rightB x with
  | false => rw [if_pos rfl]; rw [hx] at RA; exact refC_bad0 _ _ _ _ _ _ _ _ h8 h13 RA RB w
  | true =>
    rw [if_neg (by simp)]
    rw [hx] at RA
    cases hy : rightB y with
    | false => rw [if_pos rfl]; rw [hy] at RB; exact refC_bad1 _ _ _ _ _ _ _ h8 h13 RA RB w
    | true =>
      rw [if_neg (by simp)]
      rw [hy] at RB
      cases k0 : (x.k == 0) with
      | true => rw [if_pos (by simp)]; exact refC_nul0 _ _ _ _ _ _ _ h8 h13 RA RB k0 w
      | false =>
        cases j0 : (y.k == 0) with
        | true => rw [if_pos (by simp)]; exact refC_nul1 _ _ _ _ _ _ _ h8 h13 RA RB k0 j0 w
        | false =>
          rw [if_neg (by simp)]
          have kx : knownB x = true := by unfold knownB; rw [hx, k0]; rfl
          have ky : knownB y = true := by unfold knownB; rw [hy, j0]; rfl
          have SG := refSign_any x y ox oy lx ly
          unfold refSg at SG
          rcases signP_3 x y kx ky with hp | hp
          · rw [if_pos hp]
            rw [if_pos hp] at SG
            have ho : op = 8 ∨ op = 9 ∨ op = 10 ∨ op = 11 ∨ op = 12 ∨ op = 13 := by omega
            rcases ho with ho | ho | ho | ho | ho | ho
            · exact refC_num8 _ _ _ _ _ _ _ _ (signV_3 x y) ho RA RB k0 j0 SG w
            · exact refC_num9 _ _ _ _ _ _ _ _ (signV_3 x y) ho RA RB k0 j0 SG w
            · exact refC_num10 _ _ _ _ _ _ _ _ (signV_3 x y) ho RA RB k0 j0 SG w
            · exact refC_num11 _ _ _ _ _ _ _ _ (signV_3 x y) ho RA RB k0 j0 SG w
            · exact refC_num12 _ _ _ _ _ _ _ _ (signV_3 x y) ho RA RB k0 j0 SG w
            · exact refC_num13 _ _ _ _ _ _ _ _ (signV_3 x y) ho RA RB k0 j0 SG w
          · rw [if_neg (by omega)]
            rw [if_neg (by omega), hp] at SG
            exact refC_kinds _ _ _ _ _ _ _ h8 h13 RA RB k0 j0 SG w
end Go.Proofs.YtjfbhajaddgmpaaDoor
