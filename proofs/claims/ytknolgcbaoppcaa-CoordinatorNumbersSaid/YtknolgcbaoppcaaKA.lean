/- Keys as bytes, in plain mathematics: digits, stuffed texts, what stands ahead of what, what begins what, the least bytes behind. -/
namespace Go.Proofs.Ytknolgcbaoppcaa

/-- which bytes come first: -1, 0, 1 -/
def cmpB : List UInt8 → List UInt8 → Int
  | [], [] => 0
  | [], _ :: _ => -1
  | _ :: _, [] => 1
  | a :: as, b :: bs => if a < b then -1 else if b < a then 1 else cmpB as bs
theorem u8_irrefl (a : UInt8) : ¬ a < a := UInt8.lt_irrefl a
theorem u8_lt (a b : UInt8) : a < b ↔ a.toNat < b.toNat := UInt8.lt_iff_toNat_lt
theorem u8_ext {a b : UInt8} (h : a.toNat = b.toNat) : a = b := UInt8.toNat_inj.1 h
theorem cmpB_cons (a : UInt8) (x y : List UInt8) : cmpB (a :: x) (a :: y) = cmpB x y := by simp [cmpB]
theorem cmpB_lt {a b : UInt8} (h : a.toNat < b.toNat) (x y : List UInt8) : cmpB (a :: x) (b :: y) = -1 := by
  have : a < b := (u8_lt a b).2 h
  simp [cmpB, this]
theorem cmpB_gt {a b : UInt8} (h : b.toNat < a.toNat) (x y : List UInt8) : cmpB (a :: x) (b :: y) = 1 := by
  have h1 : b < a := (u8_lt b a).2 h
  have h2 : ¬ a < b := fun h3 => by have := (u8_lt a b).1 h3; omega
  simp [cmpB, h1, h2]
theorem cmpB_self (x : List UInt8) : cmpB x x = 0 := by
  induction x with
  | nil => rfl
  | cons a x ih => rw [cmpB_cons, ih]
theorem cmpB_zero {x y : List UInt8} (h : cmpB x y = 0) : x = y := by
  induction x generalizing y with
  | nil => cases y with
    | nil => rfl
    | cons b y => simp [cmpB] at h
  | cons a x ih => cases y with
    | nil => simp [cmpB] at h
    | cons b y =>
      rcases Nat.lt_trichotomy a.toNat b.toNat with h1 | h1 | h1
      · rw [cmpB_lt h1] at h; cases h
      · have := u8_ext h1
        subst this
        rw [cmpB_cons] at h
        rw [ih h]
      · rw [cmpB_gt h1] at h; cases h
theorem cmpB_app (p x y : List UInt8) : cmpB (p ++ x) (p ++ y) = cmpB x y := by
  induction p with
  | nil => rfl
  | cons a p ih => rw [List.cons_append, List.cons_append, cmpB_cons, ih]
theorem cmpB_3 (x y : List UInt8) : cmpB x y = -1 ∨ cmpB x y = 0 ∨ cmpB x y = 1 := by
  induction x generalizing y with
  | nil => cases y with
    | nil => exact .inr (.inl rfl)
    | cons b y => exact .inl rfl
  | cons a x ih => cases y with
    | nil => exact .inr (.inr rfl)
    | cons b y =>
      rcases Nat.lt_trichotomy a.toNat b.toNat with h1 | h1 | h1
      · exact .inl (cmpB_lt h1 _ _)
      · have := u8_ext h1
        subst this
        rw [cmpB_cons]
        exact ih y
      · exact .inr (.inr (cmpB_gt h1 _ _))
/-- how two numbers stand -/
def cmpN (a b : Nat) : Int := if a < b then -1 else if b < a then 1 else 0
theorem cmpN_lt {a b : Nat} (h : a < b) : cmpN a b = -1 := by unfold cmpN; rw [if_pos h]
theorem cmpN_gt {a b : Nat} (h : b < a) : cmpN a b = 1 := by unfold cmpN; rw [if_neg (by omega), if_pos h]
theorem cmpN_eq {a b : Nat} (h : a = b) : cmpN a b = 0 := by unfold cmpN; rw [if_neg (by omega), if_neg (by omega)]

/-- the last m digits to the base 256, the greatest one ahead -/
def be : Nat → Nat → List UInt8
  | 0, _ => []
  | m + 1, u => UInt8.ofNat (u / 256 ^ m % 256) :: be m u
theorem be_len (m u : Nat) : (be m u).length = m := by
  induction m with
  | zero => rfl
  | succ m ih => simp [be, ih]
theorem ofNat_toNat {q : Nat} (h : q < 256) : (UInt8.ofNat q).toNat = q := UInt8.toNat_ofNat_of_lt' (by show q < 256; omega)
theorem be_cmp (m a b : Nat) (x y : List UInt8) : cmpB (be m a ++ x) (be m b ++ y) = if a % 256 ^ m = b % 256 ^ m then cmpB x y else cmpN (a % 256 ^ m) (b % 256 ^ m) := by
  induction m with
  | zero => simp [be, Nat.mod_one]
  | succ m ih =>
    have ea := Nat.mod_pow_succ (x := a) (b := 256) (k := m)
    have eb := Nat.mod_pow_succ (x := b) (b := 256) (k := m)
    have pa : a % 256 ^ m < 256 ^ m := Nat.mod_lt _ (Nat.pow_pos (by omega))
    have pb : b % 256 ^ m < 256 ^ m := Nat.mod_lt _ (Nat.pow_pos (by omega))
    have qa : a / 256 ^ m % 256 < 256 := Nat.mod_lt _ (by omega)
    have qb : b / 256 ^ m % 256 < 256 := Nat.mod_lt _ (by omega)
    simp only [be, List.cons_append]
    rw [ea, eb]
    generalize a / 256 ^ m % 256 = p at *
    generalize b / 256 ^ m % 256 = q at *
    generalize a % 256 ^ m = r at *
    generalize b % 256 ^ m = s at *
    generalize 256 ^ m = k at *
    rcases Nat.lt_trichotomy p q with h | h | h
    · rw [cmpB_lt (by rw [ofNat_toNat qa, ofNat_toNat qb]; exact h)]
      have h2 : r + k * p < s + k * q := by
        have h3 : k * (p + 1) ≤ k * q := Nat.mul_le_mul_left k h
        rw [Nat.mul_succ] at h3
        omega
      rw [if_neg (by omega), cmpN_lt h2]
    · subst h
      rw [cmpB_cons, ih]
      by_cases h2 : r = s
      · rw [if_pos h2, if_pos (by rw [h2])]
      · rw [if_neg h2, if_neg (by omega)]
        rcases Nat.lt_or_gt_of_ne h2 with h3 | h3
        · rw [cmpN_lt h3, cmpN_lt (by omega)]
        · rw [cmpN_gt h3, cmpN_gt (by omega)]
    · rw [cmpB_gt (by rw [ofNat_toNat qa, ofNat_toNat qb]; exact h)]
      have h2 : s + k * q < r + k * p := by
        have h3 : k * (q + 1) ≤ k * p := Nat.mul_le_mul_left k h
        rw [Nat.mul_succ] at h3
        omega
      rw [if_neg (by omega), cmpN_gt h2]

/-- a text's bytes, each zero marked -/
def stuffL : List UInt8 → List UInt8
  | [] => []
  | c :: l => if c = 0 then 0 :: 255 :: stuffL l else c :: stuffL l
theorem stuffL_app (a b : List UInt8) : stuffL (a ++ b) = stuffL a ++ stuffL b := by
  induction a with
  | nil => rfl
  | cons c a ih =>
    simp only [List.cons_append, stuffL]
    split <;> simp [ih]
theorem stuffL_len (a : List UInt8) : (stuffL a).length ≤ 2 * a.length := by
  induction a with
  | nil => exact Nat.le_refl _
  | cons c a ih =>
    simp only [stuffL]
    split <;> simp only [List.length_cons] <;> omega
theorem nz_pos {c : UInt8} (h : ¬ c = 0) : (0 : UInt8).toNat < c.toNat := by
  rcases Nat.eq_zero_or_pos c.toNat with h1 | h1
  · exact absurd (u8_ext (a := c) (b := 0) h1) h
  · exact h1
theorem stuff_cmp (l m x y : List UInt8) : cmpB (stuffL l ++ 0 :: 1 :: x) (stuffL m ++ 0 :: 1 :: y) = if l = m then cmpB x y else cmpB l m := by
  induction l generalizing m with
  | nil => cases m with
    | nil => simp [stuffL, cmpB_cons]
    | cons d m =>
      have e : cmpB ([] : List UInt8) (d :: m) = -1 := rfl
      rw [if_neg (by simp), e]
      simp only [stuffL]
      split
      · simp only [List.nil_append, List.cons_append]
        rw [cmpB_cons]
        exact cmpB_lt (by decide) _ _
      · next h => exact cmpB_lt (nz_pos h) _ _
  | cons c l ih => cases m with
    | nil =>
      have e : cmpB (c :: l) [] = 1 := rfl
      rw [if_neg (by simp), e]
      simp only [stuffL]
      split
      · simp only [List.nil_append, List.cons_append]
        rw [cmpB_cons]
        exact cmpB_gt (by decide) _ _
      · next h => exact cmpB_gt (nz_pos h) _ _
    | cons d m =>
      by_cases h : c = d
      · subst h
        have e : (if c :: l = c :: m then cmpB x y else cmpB (c :: l) (c :: m)) = if l = m then cmpB x y else cmpB l m := by
          rw [cmpB_cons]
          simp
        rw [e, ← ih]
        simp only [stuffL]
        split <;> simp [cmpB_cons]
      · have hn : ¬ c :: l = d :: m := fun e => h (by injection e)
        rw [if_neg hn]
        have hne : c.toNat ≠ d.toNat := fun e => h (u8_ext e)
        by_cases hc : c = 0
        · have hd : ¬ d = 0 := fun e => h (by rw [hc, e])
          subst hc
          simp only [stuffL]
          rw [if_neg hd]
          simp only [if_true, List.cons_append]
          rw [cmpB_lt (nz_pos hd), cmpB_lt (nz_pos hd)]
        · by_cases hd : d = 0
          · subst hd
            simp only [stuffL]
            rw [if_neg hc]
            simp only [if_true, List.cons_append]
            rw [cmpB_gt (nz_pos hc), cmpB_gt (nz_pos hc)]
          · simp only [stuffL]
            rw [if_neg hc, if_neg hd]
            simp only [List.cons_append]
            rcases Nat.lt_or_gt_of_ne hne with h1 | h1
            · rw [cmpB_lt h1, cmpB_lt h1]
            · rw [cmpB_gt h1, cmpB_gt h1]

/-- the least bytes behind all that begin so; none if nothing is -/
def nextL : List UInt8 → Option (List UInt8)
  | [] => none
  | x :: t => match nextL t with
    | some r => some (x :: r)
    | none => if x = 255 then none else some [x + 1]
theorem next_none (l : List UInt8) : nextL l = none ↔ ∀ x ∈ l, x = 255 := by
  induction l with
  | nil => simp [nextL]
  | cons a l ih =>
    simp only [nextL]
    cases h : nextL l with
    | some r =>
      rw [h] at ih
      simp only [reduceCtorEq, false_iff] at ih ⊢
      intro h2
      exact ih fun x hx => h2 x (by simp [hx])
    | none =>
      have h2 := ih.1 h
      simp only
      split
      · next h3 => simp only [true_iff]; intro x hx; rcases List.mem_cons.1 hx with rfl | hx; exact h3; exact h2 x hx
      · next h3 => simp only [reduceCtorEq, false_iff]; intro h4; exact h3 (h4 a (by simp))
/-- bytes up to the last one that can be raised -/
theorem next_at (p q : List UInt8) (x : UInt8) (hx : ¬ x = 255) (hq : ∀ y ∈ q, y = 255) : nextL (p ++ x :: q) = some (p ++ [x + 1]) := by
  induction p with
  | nil =>
    have h : nextL q = none := (next_none q).2 hq
    simp [nextL, h, hx]
  | cons a p ih => simp [nextL, ih]
theorem succ_u8 {x : UInt8} (h : ¬ x = 255) : (x + 1).toNat = x.toNat + 1 := by
  have h1 : x.toNat ≠ 255 := fun e => h (u8_ext e)
  have h2 := x.toNat_lt
  rw [UInt8.toNat_add]
  show (x.toNat + 1) % 256 = _
  omega
/-- what lies from bytes on up to the next ones begins with them -/
theorem next_in (b c : List UInt8) : (0 ≤ cmpB c b ∧ ∀ r, nextL b = some r → cmpB c r < 0) ↔ b <+: c := by
  induction b generalizing c with
  | nil =>
    simp only [nextL, List.nil_prefix, iff_true]
    refine ⟨?_, fun r h => by cases h⟩
    cases c with
    | nil => simp [cmpB]
    | cons x c => simp [cmpB]
  | cons a b ih => cases c with
    | nil => simp [cmpB]
    | cons x c =>
      rcases Nat.lt_trichotomy a.toNat x.toNat with h | h | h
      · have hn : ¬ a :: b <+: x :: c := fun hp => by
          have := (List.cons_prefix_cons.1 hp).1
          rw [this] at h; omega
        refine ⟨fun ⟨_, h2⟩ => ?_, fun hp => absurd hp hn⟩
        exfalso
        have hx := x.toNat_lt
        simp only [nextL] at h2
        cases hb : nextL b with
        | some r =>
          rw [hb] at h2
          have := h2 _ rfl
          rw [cmpB_gt h] at this
          omega
        | none =>
          have ha : ¬ a = 255 := fun e => by
            have : a.toNat = 255 := by rw [e]; rfl
            omega
          rw [hb] at h2
          simp only [ha, if_false] at h2
          have h3 := h2 _ rfl
          have hs := succ_u8 ha
          rcases Nat.lt_or_ge (a + 1).toNat x.toNat with h4 | h4
          · rw [cmpB_gt h4] at h3; omega
          · have e : x = a + 1 := u8_ext (by omega)
            subst e
            rw [cmpB_cons] at h3
            cases c with
            | nil => simp [cmpB] at h3
            | cons y c => simp [cmpB] at h3
      · have e := u8_ext h
        subst e
        rw [cmpB_cons, List.cons_prefix_cons, ← ih c]
        simp only [true_and]
        refine and_congr_right fun _ => ?_
        simp only [nextL]
        cases hb : nextL b with
        | some r =>
          simp only [Option.some.injEq]
          exact ⟨fun h3 q hq => by have := h3 _ rfl; rw [cmpB_cons] at this; rw [← hq]; exact this, fun h3 q hq => by rw [← hq, cmpB_cons]; exact h3 _ rfl⟩
        | none =>
          simp only [reduceCtorEq, false_implies, implies_true, iff_true]
          intro q hq
          split at hq
          · cases hq
          · next h3 =>
            injection hq with hq
            rw [← hq]
            have hs := succ_u8 h3
            rw [cmpB_lt (by omega)]
            omega
      · have hn : ¬ a :: b <+: x :: c := fun hp => by
          have := (List.cons_prefix_cons.1 hp).1
          rw [this] at h; omega
        refine ⟨fun ⟨h1, _⟩ => ?_, fun hp => absurd hp hn⟩
        rw [cmpB_lt h] at h1
        omega
end Go.Proofs.Ytknolgcbaoppcaa
