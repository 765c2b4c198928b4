/- Figures to the base 16: words. -/
import Derived.Test.YtokkbipdkakenaaGreatDoorT
namespace Go.Proofs.YtokkbipdkakenaaGreatDoor
open Go.RowKit

/-- a small letter for a great one -/
def low (c : Nat) : Nat := c ||| 32
theorem or32 (c : Nat) (h : c < 256) : bits BinOp.or IntKind.u8 (c : Int) 32 = ((low c : Nat) : Int) := by
  have : ∀ c : Fin 256, bits BinOp.or IntKind.u8 ((c.val : Nat) : Int) 32 = ((low c.val : Nat) : Int) := by decide +kernel
  exact this ⟨c, h⟩
theorem low_lt (c : Nat) (h : c < 256) : low c < 256 := by
  have : ∀ c : Fin 256, low c.val < 256 := by decide +kernel
  exact this ⟨c, h⟩
/-- a figure to the base 16 -/
def hexv (c : UInt8) : Option Nat := if 48 ≤ c.toNat ∧ c.toNat ≤ 57 then some (c.toNat - 48) else if 97 ≤ low c.toNat ∧ low c.toNat ≤ 102 then some (low c.toNat - 87) else none
theorem hexv_lt {c : UInt8} {d : Nat} (h : hexv c = some d) : d < 16 := by
  unfold hexv at h
  split at h
  · injection h; omega
  · split at h
    · injection h; omega
    · cases h
def hexN : List UInt8 → Option Nat
  | [a, b] => match hexv a, hexv b with
    | some x, some y => some (16 * x + y)
    | _, _ => none
  | _ => none
end Go.Proofs.YtokkbipdkakenaaGreatDoor
