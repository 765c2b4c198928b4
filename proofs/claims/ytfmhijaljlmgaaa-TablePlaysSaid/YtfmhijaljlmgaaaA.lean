/- Package value: truth, isTruth, Right, magnitude, sign answer what the document says, for every value. -/
import Derived.Test.YtfmhijaljlmgaaaRows
import Derived.WalkKit
import Derived.WalkSpells
import Derived.WalkLawsBesides
import Derived.RowKitTokens
import Derived.IntWalk
import Derived.Lib.Hide
import Derived.Deep.QuietTactic
import Derived.BigQuiet
import Derived.Deep.RegionHeld3
import Derived.Deep.RegionLaw
import Derived.Deep.DeepCutAuto
import Derived.Handy
namespace Go.Proofs.Ytfmhijaljlmgaaa
open Go.RowKit

def i64ok (n : Int) : Prop := -9223372036854775808 ≤ n ∧ n ≤ 9223372036854775807
/-- A VALUE: its kind, its number, its text. -/
structure Val where
  k : Int
  n : Int
  s : ByteArray
def Val.v (x : Val) : Value := .agg #[.int .i64 x.k, .int .i64 x.n, .string x.s]
def Val.ok (x : Val) : Prop := i64ok x.k ∧ i64ok x.n
def none_ : ByteArray := ⟨#[]⟩
def Ans (v : Value) (w : World) : Ending → World → Prop := fun e w' => e = .returned v ∧ Below w.heap.size w w'
theorem alloc_below (w : World) (o : Obj) : Below w.heap.size w (w.alloc o) := (Below.refl _ _).alloc (Nat.le_refl _) o
theorem drew_below (w : World) : Below w.heap.size w w.drew := ⟨rfl, rfl, rfl, Nat.le_refl _, fun _ _ => rfl⟩
theorem drewN_below (w : World) (k : Nat) : Below w.heap.size w (w.drewN k) := ⟨rfl, rfl, rfl, Nat.le_refl _, fun _ _ => rfl⟩

theorem bytes_inj (c f : ByteArray) : c.toList = f.toList ↔ c = f := by
  rw [ByteArray.toList_eq, ByteArray.toList_eq]
  exact ⟨fun h => ByteArray.ext (Array.toList_inj.mp h), fun h => by rw [h]⟩
/-- are two values one? -/
def eqB (a b : Int) (c : ByteArray) (d e : Int) (f : ByteArray) : Bool := decide (a = d ∧ b = e ∧ c = f)
/-- the three values that are truths -/
def isT (x : Val) : Bool := eqB x.k x.n x.s 0 0 ⟨#[]⟩ || eqB x.k x.n x.s 1 0 ⟨#[]⟩ || eqB x.k x.n x.s 1 1 ⟨#[]⟩
/-- V1: is a value valid? -/
def rightB (x : Val) : Bool := if x.k = 0 ∨ x.k = 1 then isT x else if x.k = 2 ∨ x.k = 3 then decide (x.s = ⟨#[]⟩) else if x.k = 4 ∨ x.k = 5 then decide (x.n = 0 ∧ x.s.size ≤ 200) else false
end Go.Proofs.Ytfmhijaljlmgaaa
