/- Keys as bytes, in plain mathematics: digits, stuffed texts, what stands ahead of what, what begins what, the least bytes behind. -/
namespace Go.Proofs.YtkohppalfcalbaaGreat

/-- which bytes come first: -1, 0, 1 -/
def cmpB : List UInt8 → List UInt8 → Int
  | [], [] => 0
  | [], _ :: _ => -1
  | _ :: _, [] => 1
  | a :: as, b :: bs => if a < b then -1 else if b < a then 1 else cmpB as bs
theorem u8_lt (a b : UInt8) : a < b ↔ a.toNat < b.toNat := UInt8.lt_iff_toNat_lt
theorem u8_ext {a b : UInt8} (h : a.toNat = b.toNat) : a = b := UInt8.toNat_inj.1 h
theorem cmpB_cons (a : UInt8) (x y : List UInt8) : cmpB (a :: x) (a :: y) = cmpB x y := by simp [cmpB]
theorem cmpB_lt {a b : UInt8} (h : a.toNat < b.toNat) (x y : List UInt8) : cmpB (a :: x) (b :: y) = -1 := by
  have : a < b := (u8_lt a b).2 h
  simp [cmpB, this]
theorem cmpB_gt {a b : UInt8} (h : b.toNat < a.toNat) (x y : List UInt8) : cmpB (a :: x) (b :: y) = 1 := by
  have h1 : b < a := (u8_lt b a).2 h
  have h2 : ¬ a < b := fun h3 => by have := (u8_lt a b).1 h3; omega
  simp [cmpB, h1, h2]
/-- the last m digits to the base 256, the greatest one ahead -/
def be : Nat → Nat → List UInt8
  | 0, _ => []
  | m + 1, u => UInt8.ofNat (u / 256 ^ m % 256) :: be m u
theorem be_len (m u : Nat) : (be m u).length = m := by
  induction m with
  | zero => rfl
  | succ m ih => simp [be, ih]
theorem ofNat_toNat {q : Nat} (h : q < 256) : (UInt8.ofNat q).toNat = q := UInt8.toNat_ofNat_of_lt' (by show q < 256; omega)
/-- a text's bytes, each zero marked -/
def stuffL : List UInt8 → List UInt8
  | [] => []
  | c :: l => if c = 0 then 0 :: 255 :: stuffL l else c :: stuffL l
theorem stuffL_len (a : List UInt8) : (stuffL a).length ≤ 2 * a.length := by
  induction a with
  | nil => exact Nat.le_refl _
  | cons c a ih =>
    simp only [stuffL]
    split <;> simp only [List.length_cons] <;> omega
end Go.Proofs.YtkohppalfcalbaaGreat
