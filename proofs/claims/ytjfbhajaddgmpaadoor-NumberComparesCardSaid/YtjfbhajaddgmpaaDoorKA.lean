/- Keys as bytes, in plain mathematics: digits, stuffed texts, what stands ahead of what, what begins what, the least bytes behind. -/
namespace Go.Proofs.YtjfbhajaddgmpaaDoor

/-- which bytes come first: -1, 0, 1 -/
def cmpB : List UInt8 → List UInt8 → Int
  | [], [] => 0
  | [], _ :: _ => -1
  | _ :: _, [] => 1
  | a :: as, b :: bs => if a < b then -1 else if b < a then 1 else cmpB as bs
theorem u8_lt (a b : UInt8) : a < b ↔ a.toNat < b.toNat := UInt8.lt_iff_toNat_lt
theorem u8_ext {a b : UInt8} (h : a.toNat = b.toNat) : a = b := UInt8.toNat_inj.1 h
theorem cmpB_cons (a : UInt8) (x y : List UInt8) : cmpB (a :: x) (a :: y) = cmpB x y := by simp [cmpB]
theorem cmpB_lt {a b : UInt8} (h : a.toNat < b.toNat) (x y : List UInt8) : cmpB (a :: x) (b :: y) = -1 := by
  have : a < b := (u8_lt a b).2 h
  simp [cmpB, this]
theorem cmpB_gt {a b : UInt8} (h : b.toNat < a.toNat) (x y : List UInt8) : cmpB (a :: x) (b :: y) = 1 := by
  have h1 : b < a := (u8_lt b a).2 h
  have h2 : ¬ a < b := fun h3 => by have := (u8_lt a b).1 h3; omega
  simp [cmpB, h1, h2]
theorem cmpB_self (x : List UInt8) : cmpB x x = 0 := by
  induction x with
  | nil => rfl
  | cons a x ih => rw [cmpB_cons, ih]
theorem cmpB_zero {x y : List UInt8} (h : cmpB x y = 0) : x = y := by
  induction x generalizing y with
  | nil => cases y with
    | nil => rfl
    | cons b y => simp [cmpB] at h
  | cons a x ih => cases y with
    | nil => simp [cmpB] at h
    | cons b y =>
      rcases Nat.lt_trichotomy a.toNat b.toNat with h1 | h1 | h1
      · rw [cmpB_lt h1] at h; cases h
      · have := u8_ext h1
        subst this
        rw [cmpB_cons] at h
        rw [ih h]
      · rw [cmpB_gt h1] at h; cases h
theorem cmpB_3 (x y : List UInt8) : cmpB x y = -1 ∨ cmpB x y = 0 ∨ cmpB x y = 1 := by
  induction x generalizing y with
  | nil => cases y with
    | nil => exact .inr (.inl rfl)
    | cons b y => exact .inl rfl
  | cons a x ih => cases y with
    | nil => exact .inr (.inr rfl)
    | cons b y =>
      rcases Nat.lt_trichotomy a.toNat b.toNat with h1 | h1 | h1
      · exact .inl (cmpB_lt h1 _ _)
      · have := u8_ext h1
        subst this
        rw [cmpB_cons]
        exact ih y
      · exact .inr (.inr (cmpB_gt h1 _ _))
/-- the last m digits to the base 256, the greatest one ahead -/
def be : Nat → Nat → List UInt8
  | 0, _ => []
  | m + 1, u => UInt8.ofNat (u / 256 ^ m % 256) :: be m u
end Go.Proofs.YtjfbhajaddgmpaaDoor
