/- Order is one line: antisymmetric, transitive; so are lists. -/
import Derived.Test.YtkjgiabkhemcnaaKB
namespace Go.Proofs.Ytkjgiabkhemcnaa

/-- a way to tell which comes first that is a line -/
structure LineC {A : Type} (c : A → A → Int) : Prop where
  neg : ∀ a b, c a b = - c b a
  tr : ∀ a b d, c a b ≤ 0 → c b d ≤ 0 → c a d ≤ 0
theorem LineC.le_lt {A : Type} {c : A → A → Int} (h : LineC c) {a b d : A} (h1 : c a b ≤ 0) (h2 : c b d < 0) : c a d < 0 := by
  rcases Int.lt_or_le (c a d) 0 with h3 | h3
  · exact h3
  · have e1 := h.neg a d
    have h4 := h.tr d a b (by omega) h1
    have e2 := h.neg b d
    omega
theorem LineC.lt_le {A : Type} {c : A → A → Int} (h : LineC c) {a b d : A} (h1 : c a b < 0) (h2 : c b d ≤ 0) : c a d < 0 := by
  rcases Int.lt_or_le (c a d) 0 with h3 | h3
  · exact h3
  · have e1 := h.neg a d
    have h4 := h.tr b d a h2 (by omega)
    have e2 := h.neg a b
    omega
theorem LineC.lex {A : Type} {c d : A → A → Int} (hc : LineC c) (hd : LineC d) : LineC fun a b => if c a b ≠ 0 then c a b else d a b := by
  constructor
  · intro a b
    have e := hc.neg a b
    have e2 := hd.neg a b
    show (if c a b ≠ 0 then c a b else d a b) = -(if c b a ≠ 0 then c b a else d b a)
    split <;> split <;> omega
  · intro a b e h1 h2
    change (if c a b ≠ 0 then c a b else d a b) ≤ 0 at h1
    change (if c b e ≠ 0 then c b e else d b e) ≤ 0 at h2
    show (if c a e ≠ 0 then c a e else d a e) ≤ 0
    have n1 := hc.neg a b
    have n2 := hc.neg b e
    have n3 := hc.neg a e
    have l1 : c a b ≤ 0 := by split at h1 <;> omega
    have l2 : c b e ≤ 0 := by split at h2 <;> omega
    have t := hc.tr a b e l1 l2
    split
    · exact t
    · next h3 =>
      have z : c a e = 0 := Decidable.not_not.1 h3
      have t1 := hc.tr e a b (by omega) l1
      have t2 := hc.tr b e a l2 (by omega)
      have z1 : c a b = 0 := by omega
      have z2 : c b e = 0 := by omega
      rw [if_neg (by omega)] at h1 h2
      exact hd.tr a b e h1 h2
theorem LineC.on {A B : Type} {c : A → A → Int} (h : LineC c) (f : B → A) : LineC fun a b => c (f a) (f b) := ⟨fun _ _ => h.neg _ _, fun _ _ _ => h.tr _ _ _⟩
theorem line_cmpI : LineC cmpI := by
  constructor
  · intro a b
    rcases Int.lt_trichotomy a b with h | h | h
    · rw [cmpI_lt h, cmpI_gt h]
    · rw [cmpI_eq h, cmpI_eq h.symm]; rfl
    · rw [cmpI_gt h, cmpI_lt h]; rfl
  · intro a b d h1 h2
    have k : ∀ x y : Int, cmpI x y ≤ 0 → x ≤ y := fun x y h => by
      rcases Int.lt_trichotomy x y with g | g | g
      · omega
      · omega
      · rw [cmpI_gt g] at h; omega
    have h3 := k a b h1
    have h4 := k b d h2
    rcases Int.lt_or_eq_of_le (Int.le_trans h3 h4) with g | g
    · rw [cmpI_lt g]; omega
    · rw [cmpI_eq g]; omega
theorem line_cmpB : LineC cmpB := by
  constructor
  · intro a
    induction a with
    | nil => intro b; cases b <;> rfl
    | cons x a ih =>
      intro b
      cases b with
      | nil => rfl
      | cons y b =>
        rcases Nat.lt_trichotomy x.toNat y.toNat with h | h | h
        · rw [cmpB_lt h, cmpB_gt h]
        · have := u8_ext h
          subst this
          rw [cmpB_cons, cmpB_cons, ih b]
        · rw [cmpB_gt h, cmpB_lt h]; rfl
  · intro a
    induction a with
    | nil =>
      intro b d _ _
      cases d with
      | nil => simp [cmpB]
      | cons z d => simp [cmpB]
    | cons x a ih =>
      intro b d h1 h2
      cases b with
      | nil => simp [cmpB] at h1
      | cons y b => cases d with
        | nil => simp [cmpB] at h2
        | cons z d =>
          rcases Nat.lt_trichotomy x.toNat y.toNat with h | h | h
          · rcases Nat.lt_trichotomy y.toNat z.toNat with g | g | g
            · rw [cmpB_lt (by omega)]; omega
            · rw [cmpB_lt (by omega)]; omega
            · rw [cmpB_gt g] at h2; omega
          · have := u8_ext h
            subst this
            rcases Nat.lt_trichotomy x.toNat z.toNat with g | g | g
            · rw [cmpB_lt g]; omega
            · have := u8_ext g
              subst this
              rw [cmpB_cons] at *
              exact ih b d h1 h2
            · rw [cmpB_gt g] at h2; omega
          · rw [cmpB_gt h] at h1; omega
theorem ord_lex (x y : Val) : ordI x y = if cmpI x.k y.k ≠ 0 then cmpI x.k y.k else if cmpI x.n y.n ≠ 0 then cmpI x.n y.n else cmpB x.s.data.toList y.s.data.toList := by
  unfold ordI orI
  rw [cmpB_eq]
theorem line_ord : LineC ordI := by
  have h := (line_cmpI.on Val.k).lex ((line_cmpI.on Val.n).lex (line_cmpB.on fun x : Val => x.s.data.toList))
  have e : ordI = fun x y : Val => if cmpI x.k y.k ≠ 0 then cmpI x.k y.k else if cmpI x.n y.n ≠ 0 then cmpI x.n y.n else cmpB x.s.data.toList y.s.data.toList := funext fun x => funext fun y => ord_lex x y
  rw [e]
  exact h
theorem ord_3 (x y : Val) : ordI x y = -1 ∨ ordI x y = 0 ∨ ordI x y = 1 := by
  have k : ∀ a b : Int, cmpI a b = -1 ∨ cmpI a b = 0 ∨ cmpI a b = 1 := fun a b => by
    rcases Int.lt_trichotomy a b with h | h | h
    · exact .inl (cmpI_lt h)
    · exact .inr (.inl (cmpI_eq h))
    · exact .inr (.inr (cmpI_gt h))
  rw [ord_lex]
  split
  · exact k _ _
  · split
    · exact k _ _
    · exact cmpB_3 _ _
theorem rows_3 (a b : List Val) : rowsI a b = -1 ∨ rowsI a b = 0 ∨ rowsI a b = 1 := by
  induction a generalizing b with
  | nil => cases b with
    | nil => exact .inr (.inl rfl)
    | cons y b => exact .inl rfl
  | cons x a ih => cases b with
    | nil => exact .inr (.inr rfl)
    | cons y b =>
      simp only [rowsI]
      split
      · exact ih b
      · exact ord_3 x y
end Go.Proofs.Ytkjgiabkhemcnaa
