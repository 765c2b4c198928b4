/- A key's bytes: each value's bytes are taken one way, and stand as the value does. -/
import Derived.Test.YtkohppalfcalbaaGreatKA
import Derived.Test.YtkohppalfcalbaaGreatA
import Derived.Lib.Bytealg
namespace Go.Proofs.YtkohppalfcalbaaGreat

theorem cmpB_eq (x y : List UInt8) : Lib.compareBytes x y = cmpB x y := by
  induction x generalizing y with
  | nil => cases y <;> rfl
  | cons a x ih => cases y with
    | nil => rfl
    | cons b y => simp only [Lib.compareBytes, cmpB, ih]
/-- a right value -/
def Val.R (x : Val) : Prop := rightB x = true ∧ x.ok
theorem Val.ext' {x y : Val} (h1 : x.k = y.k) (h2 : x.n = y.n) (h3 : x.s = y.s) : x = y := by
  cases x; cases y; simp only at h1 h2 h3; subst h1 h2 h3; rfl
theorem bytes_ext {c f : ByteArray} (h : c.data.toList = f.data.toList) : c = f := ByteArray.ext (Array.toList_inj.1 h)
/-- what a right value looks like -/
theorem Val.R.cases {x : Val} (h : x.R) : (x.k = 0 ∧ x.n = 0 ∧ x.s = ⟨#[]⟩) ∨ (x.k = 1 ∧ (x.n = 0 ∨ x.n = 1) ∧ x.s = ⟨#[]⟩) ∨ ((x.k = 2 ∨ x.k = 3) ∧ x.s = ⟨#[]⟩ ∧ i64ok x.n) ∨ ((x.k = 4 ∨ x.k = 5) ∧ x.n = 0 ∧ x.s.size ≤ 200) := by
  obtain ⟨h, _, hn⟩ := h
  unfold rightB isT eqB at h
  by_cases h1 : x.k = 0 ∨ x.k = 1
  · rw [if_pos h1] at h
    simp only [Bool.or_eq_true, decide_eq_true_eq] at h
    rcases h with (⟨a, b, c⟩ | ⟨a, b, c⟩) | ⟨a, b, c⟩
    · exact .inl ⟨a, b, c⟩
    · exact .inr (.inl ⟨a, .inl b, c⟩)
    · exact .inr (.inl ⟨a, .inr b, c⟩)
  · rw [if_neg h1] at h
    by_cases h2 : x.k = 2 ∨ x.k = 3
    · rw [if_pos h2] at h
      exact .inr (.inr (.inl ⟨h2, of_decide_eq_true h, hn⟩))
    · rw [if_neg h2] at h
      by_cases h3 : x.k = 4 ∨ x.k = 5
      · rw [if_pos h3] at h
        exact .inr (.inr (.inr ⟨h3, of_decide_eq_true h⟩))
      · rw [if_neg h3] at h
        cases h
/-- a number as one that is not negative -/
def offN (n : Int) : Nat := (n + 9223372036854775808).toNat
/-- what stands behind a value's kind -/
def bodyL (k n : Int) (l : List UInt8) : List UInt8 := if k = 1 then be 1 n.toNat else if k = 2 ∨ k = 3 then be 8 (offN n) else if k = 4 ∨ k = 5 then stuffL l ++ [0, 1] else []
def enc1 (x : Val) : List UInt8 := UInt8.ofNat x.k.toNat :: bodyL x.k x.n x.s.data.toList
theorem enc_len {x : Val} (h : x.R) : (enc1 x).length ≤ 403 := by
  unfold enc1 bodyL
  have hs := stuffL_len x.s.data.toList
  have hc := h.cases
  have hsz : x.s.data.toList.length = x.s.size := by simp
  rw [hsz] at hs
  simp only [List.length_cons]
  split
  · rw [be_len]; omega
  · split
    · rw [be_len]; omega
    · split
      · simp only [List.length_append, List.length_cons, List.length_nil]; omega
      · simp
end Go.Proofs.YtkohppalfcalbaaGreat
