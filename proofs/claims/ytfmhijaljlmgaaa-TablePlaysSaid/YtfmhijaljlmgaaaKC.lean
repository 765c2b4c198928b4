/- Order is one line: antisymmetric, transitive; so are lists. -/
import Derived.Test.YtfmhijaljlmgaaaKB
namespace Go.Proofs.Ytfmhijaljlmgaaa

/-- a way to tell which comes first that is a line -/
structure LineC {A : Type} (c : A → A → Int) : Prop where
  neg : ∀ a b, c a b = - c b a
  tr : ∀ a b d, c a b ≤ 0 → c b d ≤ 0 → c a d ≤ 0
theorem LineC.le_lt {A : Type} {c : A → A → Int} (h : LineC c) {a b d : A} (h1 : c a b ≤ 0) (h2 : c b d < 0) : c a d < 0 := by
  rcases Int.lt_or_le (c a d) 0 with h3 | h3
  · exact h3
  · have e1 := h.neg a d
    have h4 := h.tr d a b (by omega) h1
    have e2 := h.neg b d
    omega
theorem LineC.lt_le {A : Type} {c : A → A → Int} (h : LineC c) {a b d : A} (h1 : c a b < 0) (h2 : c b d ≤ 0) : c a d < 0 := by
  rcases Int.lt_or_le (c a d) 0 with h3 | h3
  · exact h3
  · have e1 := h.neg a d
    have h4 := h.tr b d a h2 (by omega)
    have e2 := h.neg a b
    omega
theorem LineC.on {A B : Type} {c : A → A → Int} (h : LineC c) (f : B → A) : LineC fun a b => c (f a) (f b) := ⟨fun _ _ => h.neg _ _, fun _ _ _ => h.tr _ _ _⟩
theorem line_cmpB : LineC cmpB := by
  constructor
  · intro a
    induction a with
    | nil => intro b; cases b <;> rfl
    | cons x a ih =>
      intro b
      cases b with
      | nil => rfl
      | cons y b =>
        rcases Nat.lt_trichotomy x.toNat y.toNat with h | h | h
        · rw [cmpB_lt h, cmpB_gt h]
        · have := u8_ext h
          subst this
          rw [cmpB_cons, cmpB_cons, ih b]
        · rw [cmpB_gt h, cmpB_lt h]; rfl
  · intro a
    induction a with
    | nil =>
      intro b d _ _
      cases d with
      | nil => simp [cmpB]
      | cons z d => simp [cmpB]
    | cons x a ih =>
      intro b d h1 h2
      cases b with
      | nil => simp [cmpB] at h1
      | cons y b => cases d with
        | nil => simp [cmpB] at h2
        | cons z d =>
          rcases Nat.lt_trichotomy x.toNat y.toNat with h | h | h
          · rcases Nat.lt_trichotomy y.toNat z.toNat with g | g | g
            · rw [cmpB_lt (by omega)]; omega
            · rw [cmpB_lt (by omega)]; omega
            · rw [cmpB_gt g] at h2; omega
          · have := u8_ext h
            subst this
            rcases Nat.lt_trichotomy x.toNat z.toNat with g | g | g
            · rw [cmpB_lt g]; omega
            · have := u8_ext g
              subst this
              rw [cmpB_cons] at *
              exact ih b d h1 h2
            · rw [cmpB_gt g] at h2; omega
          · rw [cmpB_gt h] at h1; omega
end Go.Proofs.Ytfmhijaljlmgaaa
