/- The document's numbers of any size: a sum's sign. -/
import Derived.Test.YtjfbhajaddgmpaaDoorNCG
namespace Go.Proofs.YtjfbhajaddgmpaaDoor
open Go.RowKit

def sgnd (m : Bool) (X : Int) : Int := if m then -X else X
theorem lessB_eq (X Y : Int) : lessB (X % 4294967296) (X / 4294967296 % 4294967296) (X / 4294967296 / 4294967296) (Y % 4294967296) (Y / 4294967296 % 4294967296) (Y / 4294967296 / 4294967296) = decide (X < Y) := by
  unfold lessB
  split
  · congr 1; apply propext; omega
  · split
    · congr 1; apply propext; omega
    · congr 1; apply propext; omega
theorem refBig_add (m n : Bool) (X Y : Int) (hX : 0 ≤ X ∧ X < 18446744073709551616000000) (hY : 0 ≤ Y ∧ Y < 18446744073709551616000000) :
    ∃ k Z, 0 ≤ Z ∧ sgnd k Z = sgnd m X + sgnd n Y ∧ Z < 18446744073709551616000000 * 2 ∧ ∀ w, Calls Tryd.prog 28 #[.agg (magC m X), .agg (magC n Y)] w (Ans (.agg (magC k Z)) w) := by
  have ha : 0 ≤ X % 4294967296 ∧ X % 4294967296 < 4294967296 ∧ 0 ≤ X / 4294967296 % 4294967296 ∧ X / 4294967296 % 4294967296 < 4294967296 ∧ 0 ≤ X / 4294967296 / 4294967296 ∧ X / 4294967296 / 4294967296 < 1000000 := by omega
  have hb : 0 ≤ Y % 4294967296 ∧ Y % 4294967296 < 4294967296 ∧ 0 ≤ Y / 4294967296 % 4294967296 ∧ Y / 4294967296 % 4294967296 < 4294967296 ∧ 0 ≤ Y / 4294967296 / 4294967296 ∧ Y / 4294967296 / 4294967296 < 1000000 := by omega
  by_cases hmn : n = m
  · subst hmn
    refine ⟨n, X + Y, by omega, ?_, by omega, fun w => ?_⟩
    · unfold sgnd; cases n <;> simp <;> omega
    · skip
      obtain ⟨s0, E0⟩ : ∃ z : Int, z = (X % 4294967296) + (Y % 4294967296) := ⟨_, rfl⟩
      obtain ⟨o0, E1⟩ : ∃ z : Int, z = s0 % 4294967296 := ⟨_, rfl⟩
      obtain ⟨k0, E2⟩ : ∃ z : Int, z = s0 / 4294967296 := ⟨_, rfl⟩
      obtain ⟨s1, E3⟩ : ∃ z : Int, z = (X / 4294967296 % 4294967296) + (Y / 4294967296 % 4294967296) + k0 := ⟨_, rfl⟩
      obtain ⟨o1, E4⟩ : ∃ z : Int, z = s1 % 4294967296 := ⟨_, rfl⟩
      obtain ⟨k1, E5⟩ : ∃ z : Int, z = s1 / 4294967296 := ⟨_, rfl⟩
      obtain ⟨s2, E6⟩ : ∃ z : Int, z = (X / 4294967296 / 4294967296) + (Y / 4294967296 / 4294967296) + k1 := ⟨_, rfl⟩
      have h := refBig_addSame n _ _ _ _ _ _ ha hb w s0 o0 k0 s1 o1 k1 s2 E0 E1 E2 E3 E4 E5 E6
      have e : bigC n o0 o1 s2 0 0 0 = magC n (X + Y) := by
        have h0 : o0 = (X + Y) % 4294967296 := by omega
        have h1 : o1 = (X + Y) / 4294967296 % 4294967296 := by omega
        have h2 : s2 = (X + Y) / 4294967296 / 4294967296 := by omega
        rw [h0, h1, h2]; rfl
      rw [e] at h
      exact h
  · have hn : n = !m := by cases n <;> cases m <;> simp_all
    subst hn
    by_cases hlt : X < Y
    · refine ⟨!m, Y - X, by omega, ?_, by omega, fun w => ?_⟩
      · unfold sgnd; cases m <;> simp <;> omega
      · skip
        obtain ⟨U0, E0⟩ : ∃ z : Int, z = (Y % 4294967296) + 4294967296 := ⟨_, rfl⟩
        obtain ⟨s0, E1⟩ : ∃ z : Int, z = U0 - (X % 4294967296) := ⟨_, rfl⟩
        obtain ⟨o0, E2⟩ : ∃ z : Int, z = s0 % 4294967296 := ⟨_, rfl⟩
        obtain ⟨h0, E3⟩ : ∃ z : Int, z = s0 / 4294967296 := ⟨_, rfl⟩
        obtain ⟨k0, E4⟩ : ∃ z : Int, z = 1 - h0 := ⟨_, rfl⟩
        obtain ⟨U1, E5⟩ : ∃ z : Int, z = (Y / 4294967296 % 4294967296) + 4294967296 := ⟨_, rfl⟩
        obtain ⟨V1, E6⟩ : ∃ z : Int, z = U1 - (X / 4294967296 % 4294967296) := ⟨_, rfl⟩
        obtain ⟨s1, E7⟩ : ∃ z : Int, z = V1 - k0 := ⟨_, rfl⟩
        obtain ⟨o1, E8⟩ : ∃ z : Int, z = s1 % 4294967296 := ⟨_, rfl⟩
        obtain ⟨h1, E9⟩ : ∃ z : Int, z = s1 / 4294967296 := ⟨_, rfl⟩
        obtain ⟨k1, E10⟩ : ∃ z : Int, z = 1 - h1 := ⟨_, rfl⟩
        obtain ⟨U2, E11⟩ : ∃ z : Int, z = (Y / 4294967296 / 4294967296) + 4294967296 := ⟨_, rfl⟩
        obtain ⟨V2, E12⟩ : ∃ z : Int, z = U2 - (X / 4294967296 / 4294967296) := ⟨_, rfl⟩
        obtain ⟨s2, E13⟩ : ∃ z : Int, z = V2 - k1 := ⟨_, rfl⟩
        obtain ⟨o2, E14⟩ : ∃ z : Int, z = s2 % 4294967296 := ⟨_, rfl⟩
        have h := refBig_addLess (!m) _ _ _ _ _ _ hb ha (by omega) ((lessB_eq X Y).trans (decide_eq_true hlt)) w U0 s0 o0 h0 k0 U1 V1 s1 o1 h1 k1 U2 V2 s2 o2 E0 E1 E2 E3 E4 E5 E6 E7 E8 E9 E10 E11 E12 E13 E14
        have e : bigC (!m) o0 o1 o2 0 0 0 = magC (!m) (Y - X) := by
          have h0 : o0 = (Y - X) % 4294967296 := by omega
          have h1 : o1 = (Y - X) / 4294967296 % 4294967296 := by omega
          have h2 : o2 = (Y - X) / 4294967296 / 4294967296 := by omega
          rw [h0, h1, h2]; rfl
        rw [e, Bool.not_not] at h
        exact h
    · refine ⟨m, X - Y, by omega, ?_, by omega, fun w => ?_⟩
      · unfold sgnd; cases m <;> simp <;> omega
      · skip
        obtain ⟨U0, E0⟩ : ∃ z : Int, z = (X % 4294967296) + 4294967296 := ⟨_, rfl⟩
        obtain ⟨s0, E1⟩ : ∃ z : Int, z = U0 - (Y % 4294967296) := ⟨_, rfl⟩
        obtain ⟨o0, E2⟩ : ∃ z : Int, z = s0 % 4294967296 := ⟨_, rfl⟩
        obtain ⟨h0, E3⟩ : ∃ z : Int, z = s0 / 4294967296 := ⟨_, rfl⟩
        obtain ⟨k0, E4⟩ : ∃ z : Int, z = 1 - h0 := ⟨_, rfl⟩
        obtain ⟨U1, E5⟩ : ∃ z : Int, z = (X / 4294967296 % 4294967296) + 4294967296 := ⟨_, rfl⟩
        obtain ⟨V1, E6⟩ : ∃ z : Int, z = U1 - (Y / 4294967296 % 4294967296) := ⟨_, rfl⟩
        obtain ⟨s1, E7⟩ : ∃ z : Int, z = V1 - k0 := ⟨_, rfl⟩
        obtain ⟨o1, E8⟩ : ∃ z : Int, z = s1 % 4294967296 := ⟨_, rfl⟩
        obtain ⟨h1, E9⟩ : ∃ z : Int, z = s1 / 4294967296 := ⟨_, rfl⟩
        obtain ⟨k1, E10⟩ : ∃ z : Int, z = 1 - h1 := ⟨_, rfl⟩
        obtain ⟨U2, E11⟩ : ∃ z : Int, z = (X / 4294967296 / 4294967296) + 4294967296 := ⟨_, rfl⟩
        obtain ⟨V2, E12⟩ : ∃ z : Int, z = U2 - (Y / 4294967296 / 4294967296) := ⟨_, rfl⟩
        obtain ⟨s2, E13⟩ : ∃ z : Int, z = V2 - k1 := ⟨_, rfl⟩
        obtain ⟨o2, E14⟩ : ∃ z : Int, z = s2 % 4294967296 := ⟨_, rfl⟩
        have h := refBig_addMore m _ _ _ _ _ _ ha hb (by omega) ((lessB_eq X Y).trans (decide_eq_false hlt)) w U0 s0 o0 h0 k0 U1 V1 s1 o1 h1 k1 U2 V2 s2 o2 E0 E1 E2 E3 E4 E5 E6 E7 E8 E9 E10 E11 E12 E13 E14
        have e : bigC m o0 o1 o2 0 0 0 = magC m (X - Y) := by
          have h0 : o0 = (X - Y) % 4294967296 := by omega
          have h1 : o1 = (X - Y) / 4294967296 % 4294967296 := by omega
          have h2 : o2 = (X - Y) / 4294967296 / 4294967296 := by omega
          rw [h0, h1, h2]; rfl
        rw [e] at h
        exact h
theorem refBig_magSign (k : Bool) (Z : Int) (hZ : 0 ≤ Z) (w : World) : Calls Tryd.prog 29 #[.agg (magC k Z)] w (Ans (.int .i64 (sgnd k Z).sign) w) := by
  have h := refBig_sign k (Z % 4294967296) (Z / 4294967296 % 4294967296) (Z / 4294967296 / 4294967296) 0 w
  have e : signB k (Z % 4294967296) (Z / 4294967296 % 4294967296) (Z / 4294967296 / 4294967296) 0 = (sgnd k Z).sign := by
    unfold signB sgnd
    split
    · have h0 : Z = 0 := by omega
      subst h0
      cases k <;> rfl
    · have h0 : 0 < Z := by omega
      cases k
      · exact (Int.sign_eq_one_of_pos h0).symm
      · rw [if_pos rfl, if_pos rfl, Int.sign_neg, Int.sign_eq_one_of_pos h0]
  rw [e] at h
  exact h
end Go.Proofs.YtjfbhajaddgmpaaDoor
