/- A key's bytes: each value's bytes are taken one way, and stand as the value does. -/
import Derived.Test.YtjfbhajaddgmpaaDoorKA
import Derived.Test.YtjfbhajaddgmpaaDoorQM
namespace Go.Proofs.YtjfbhajaddgmpaaDoor

theorem cmpB_eq (x y : List UInt8) : Lib.compareBytes x y = cmpB x y := by
  induction x generalizing y with
  | nil => cases y <;> rfl
  | cons a x ih => cases y with
    | nil => rfl
    | cons b y => simp only [Lib.compareBytes, cmpB, ih]
theorem less_eq (x y : List UInt8) : Op.bytesLess x y = decide (cmpB x y < 0) := by
  induction x generalizing y with
  | nil => cases y with
    | nil => simp [Op.bytesLess, cmpB]
    | cons b y => simp [Op.bytesLess, cmpB]
  | cons a x ih => cases y with
    | nil => simp [Op.bytesLess, cmpB]
    | cons b y =>
      rcases Nat.lt_trichotomy a.toNat b.toNat with h | h | h
      · have h1 : a < b := (u8_lt a b).2 h
        rw [cmpB_lt h]
        simp [Op.bytesLess, h1]
      · have e := u8_ext h
        subst e
        rw [cmpB_cons, ← ih]
        simp [Op.bytesLess]
      · have h1 : ¬ a < b := fun h3 => by have := (u8_lt a b).1 h3; omega
        have h2 : ¬ a = b := fun e => by subst e; omega
        rw [cmpB_gt h]
        simp [Op.bytesLess, h1, h2]

/-- a right value -/
def Val.R (x : Val) : Prop := rightB x = true ∧ x.ok
/-- what a right value looks like -/
theorem Val.R.cases {x : Val} (h : x.R) : (x.k = 0 ∧ x.n = 0 ∧ x.s = ⟨#[]⟩) ∨ (x.k = 1 ∧ (x.n = 0 ∨ x.n = 1) ∧ x.s = ⟨#[]⟩) ∨ ((x.k = 2 ∨ x.k = 3) ∧ x.s = ⟨#[]⟩ ∧ i64ok x.n) ∨ ((x.k = 4 ∨ x.k = 5) ∧ x.n = 0 ∧ x.s.size ≤ 200) := by
  obtain ⟨h, _, hn⟩ := h
  unfold rightB isT eqB at h
  by_cases h1 : x.k = 0 ∨ x.k = 1
  · rw [if_pos h1] at h
    simp only [Bool.or_eq_true, decide_eq_true_eq] at h
    rcases h with (⟨a, b, c⟩ | ⟨a, b, c⟩) | ⟨a, b, c⟩
    · exact .inl ⟨a, b, c⟩
    · exact .inr (.inl ⟨a, .inl b, c⟩)
    · exact .inr (.inl ⟨a, .inr b, c⟩)
  · rw [if_neg h1] at h
    by_cases h2 : x.k = 2 ∨ x.k = 3
    · rw [if_pos h2] at h
      exact .inr (.inr (.inl ⟨h2, of_decide_eq_true h, hn⟩))
    · rw [if_neg h2] at h
      by_cases h3 : x.k = 4 ∨ x.k = 5
      · rw [if_pos h3] at h
        exact .inr (.inr (.inr ⟨h3, of_decide_eq_true h⟩))
      · rw [if_neg h3] at h
        cases h
end Go.Proofs.YtjfbhajaddgmpaaDoor
