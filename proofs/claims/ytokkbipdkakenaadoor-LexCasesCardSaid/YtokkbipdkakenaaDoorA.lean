/- Package value: truth, isTruth, Right, magnitude, sign answer what the document says, for every value. -/
import Derived.Test.YtokkbipdkakenaaDoorRows
import Derived.WalkKit
import Derived.WalkSpells
import Derived.WalkLawsBesides
import Derived.RowKitTokens
import Derived.IntWalk
import Derived.Lib.Hide
import Derived.Deep.QuietTactic
import Derived.BigQuiet
import Derived.Deep.RegionHeld3
import Derived.Deep.RegionLaw
import Derived.Deep.DeepCutAuto
import Derived.Handy
namespace Go.Proofs.YtokkbipdkakenaaDoor
open Go.RowKit

def i64ok (n : Int) : Prop := -9223372036854775808 ≤ n ∧ n ≤ 9223372036854775807
/-- A VALUE: its kind, its number, its text. -/
structure Val where
  k : Int
  n : Int
  s : ByteArray
def Val.v (x : Val) : Value := .agg #[.int .i64 x.k, .int .i64 x.n, .string x.s]
def Val.ok (x : Val) : Prop := i64ok x.k ∧ i64ok x.n
def none_ : ByteArray := ⟨#[]⟩
def truthV (b : Bool) : Val := ⟨1, if b then 1 else 0, none_⟩
def nullV : Val := ⟨0, 0, none_⟩
def Ans (v : Value) (w : World) : Ending → World → Prop := fun e w' => e = .returned v ∧ Below w.heap.size w w'
theorem alloc_below (w : World) (o : Obj) : Below w.heap.size w (w.alloc o) := (Below.refl _ _).alloc (Nat.le_refl _) o
theorem alloc2_below (w : World) (o p : Obj) : Below w.heap.size w ((w.alloc o).alloc p) := (alloc_below w o).alloc (by simp) p
theorem drew_below (w : World) : Below w.heap.size w w.drew := ⟨rfl, rfl, rfl, Nat.le_refl _, fun _ _ => rfl⟩
theorem drewN_below (w : World) (k : Nat) : Below w.heap.size w (w.drewN k) := ⟨rfl, rfl, rfl, Nat.le_refl _, fun _ _ => rfl⟩

theorem ret_int {k : IntKind} {a b : Int} (h : a = b) : Ending.returned (.int k a) = .returned (.int k b) := by rw [h]

theorem bytes_inj (c f : ByteArray) : c.toList = f.toList ↔ c = f := by
  rw [ByteArray.toList_eq, ByteArray.toList_eq]
  exact ⟨fun h => ByteArray.ext (Array.toList_inj.mp h), fun h => by rw [h]⟩
/-- are two values one? -/
def eqB (a b : Int) (c : ByteArray) (d e : Int) (f : ByteArray) : Bool := decide (a = d ∧ b = e ∧ c = f)
theorem eqV (a b d e : Int) (c f : ByteArray) (w : World) : (binOp .eql 31 (.agg #[.int .i64 a, .int .i64 b, .string c]) (.agg #[.int .i64 d, .int .i64 e, .string f])).run Tryd.prog w = .ok (.bool (eqB a b c d e f)) w := by
  rw [run_eql_struct]
  unfold eqB
  by_cases h1 : a = d
  · by_cases h2 : b = e
    · by_cases h3 : c = f
      · subst h1 h2 h3; simp; go_simp
      · subst h1 h2
        have h4 : ¬ c.toList = f.toList := fun h => h3 ((bytes_inj c f).1 h)
        simp [h3]; go_simp
    · subst h1
      have h4 : (b == e) = false := by simpa using h2
      simp [h2]; go_simp
  · have h4 : (a == d) = false := by simpa using h1
    simp [h1]; go_simp
attribute [local go_sem ↓] eqV
theorem box3 {w : World} {b : Nat} {x y z : Value} {t : TypeId} {fr : Nat × Nat} (h : w.heap[b]? = some (.cells #[x, y, z] t fr)) : w.cell? ⟨b, 0, none⟩ = some x ∧ w.cell? ⟨b, 1, none⟩ = some y ∧ w.cell? ⟨b, 2, none⟩ = some z := by
  simp [World.cell?, h]
/-- the three values that are truths -/
def isT (x : Val) : Bool := eqB x.k x.n x.s 0 0 ⟨#[]⟩ || eqB x.k x.n x.s 1 0 ⟨#[]⟩ || eqB x.k x.n x.s 1 1 ⟨#[]⟩
/-- V1: is a value valid? -/
def rightB (x : Val) : Bool := if x.k = 0 ∨ x.k = 1 then isT x else if x.k = 2 ∨ x.k = 3 then decide (x.s = ⟨#[]⟩) else if x.k = 4 ∨ x.k = 5 then decide (x.n = 0 ∧ x.s.size ≤ 200) else false
theorem nonempty_bytes {s : ByteArray} (h : s ≠ ⟨#[]⟩) : ¬ s.toList = [] := fun e => h ((bytes_inj s ⟨#[]⟩).1 (by rw [e, ByteArray.toList_eq]))
end Go.Proofs.YtokkbipdkakenaaDoor
