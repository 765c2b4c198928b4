/- A list of values, and one value, as arguments. -/
import Derived.Test.YtkjgiabkhemcnaaKR
import Derived.Test.YtkjgiabkhemcnaaKW
import Derived.Deep.Slices
import Derived.Lib.SmallJoins
namespace Go.Proofs.Ytkjgiabkhemcnaa
open Go.ChangeShapes Go.WideShapes Go.ChangeAt Go.RowKit Go.Deep

set_option maxRecDepth 100000 in
theorem wf_i64 {k : Int} (h : (Lit.int .i64 k).wf = true) : i64ok k := by
  simp only [Lit.wf, Bool.and_eq_true, decide_eq_true_eq] at h
  have e1 : IntKind.i64.min = -9223372036854775808 := rfl
  have e2 : IntKind.i64.max = 9223372036854775807 := rfl
  rw [e1, e2] at h
  exact h
theorem u8_wf {n : Int} (h : (Lit.int .u8 n).wf = true) : ∃ c : UInt8, n = (c.toNat : Int) := by
  simp only [Lit.wf, Bool.and_eq_true, decide_eq_true_eq] at h
  have e1 : IntKind.u8.min = 0 := rfl
  have e2 : IntKind.u8.max = 255 := rfl
  rw [e1, e2] at h
  exact ⟨UInt8.ofNat n.toNat, by rw [ofNat_toNat (by omega)]; omega⟩
section
variable {H : Type} {enc : TypeId × Value → H} {W : World}
theorem maxLen_le {n : Nat} (h : n ≤ maxLen) : n ≤ 9223372036854775807 := by unfold maxLen at h; omega
/-- a family, by its indices -/
theorem family {A : Type} [Inhabited A] {n : Nat} {p : Nat → A → Prop} (h : ∀ i, i < n → ∃ x, p i x) : ∃ f : Nat → A, ∀ i, i < n → p i (f i) :=
  ⟨fun i => if hi : i < n then (h i hi).choose else default, fun i hi => by simp only [hi, dite_true]; exact (h i hi).choose_spec⟩
instance : Inhabited Val := ⟨⟨0, 0, ⟨#[]⟩⟩⟩
end
end Go.Proofs.Ytkjgiabkhemcnaa
