/- Package shard: apply; the tables of a shard under labels. -/
import Derived.Test.YtkohppalfcalbaaGreatPR1
namespace Go.Proofs.YtkohppalfcalbaaGreat
section
open Go.RowKit

/-- a space: its name, its table's block, its label, its rows -/
structure SpT where
  s : List UInt8
  b : Nat
  L : Nat
  l : List (List UInt8 × List UInt8)
def fndS (S : List SpT) (s : List UInt8) : Option SpT := S.find? fun x => decide (x.s = s)
/-- the rows of a space -/
def viewS (S : List SpT) (s : List UInt8) : List (List UInt8 × List UInt8) := match fndS S s with | some x => x.l | none => []
def spK (S : List SpT) : List (List UInt8 × Option Nat) := S.map fun x => (x.s, some x.b)
theorem findM_sp (S : List SpT) (s : List UInt8) : findM (spK S) s = (fndS S s).map fun x => (x.s, some x.b) := by
  unfold findM spK fndS
  rw [List.find?_map]
  rfl
theorem at_sp (S : List SpT) (s : List UInt8) : atM spaceW (spK S) s = (fndS S s).map (·.b) := by
  unfold atM
  rw [findM_sp]
  cases fndS S s <;> rfl
/-- the tables of a shard: map sm, spaces S; all labels are below N -/
structure Sps (w : World) (ℓ : Nat → Nat) (sm N : Nat) (S : List SpT) : Prop where
  map : MapM spaceW w sm (spK S)
  tb : ∀ x ∈ S, TbL w ℓ x.L x.b x.l
  own : ∀ x ∈ S, 2 ≤ x.L ∧ x.L < N
  apart : S.Pairwise fun a b => a.L ≠ b.L
  ne : ∀ x ∈ S, x.l ≠ []
  ls : ℓ sm = 1
theorem Sps.keep {K : Nat → Prop} {w w' : World} {ℓ : Nat → Nat} {sm N : Nat} {S : List SpT} (h : Sps w ℓ sm N S) (hO : Only K w w') (hs : ¬ K sm) (hK : ∀ k, K k → ∀ x ∈ S, ℓ k ≠ x.L) : Sps w' ℓ sm N S :=
  ⟨h.map.kept (hO.block sm h.map.lt hs), fun x hx => (h.tb x hx).only hO fun k e hk => hK k hk x hx e, h.own, h.apart, h.ne, h.ls⟩
theorem Sps.relabel {w : World} {ℓ ℓ' : Nat → Nat} {sm N : Nat} {S : List SpT} (h : Sps w ℓ sm N S) (he : ∀ k, k < w.heap.size → ℓ' k = ℓ k) : Sps w ℓ' sm N S :=
  ⟨h.map, fun x hx => (h.tb x hx).relabel he, h.own, h.apart, h.ne, (he sm h.map.lt).trans h.ls⟩
theorem Sps.below {w w' : World} {ℓ : Nat → Nat} {sm N : Nat} {S : List SpT} (h : Sps w ℓ sm N S) (hb : Below w.heap.size w w') : Sps w' ℓ sm N S := h.keep (Only.of_below (K := fun _ => False) hb) id (fun _ h => h.elim)
theorem Sps.more {w : World} {ℓ : Nat → Nat} {sm N M : Nat} {S : List SpT} (h : Sps w ℓ sm N S) (hM : N ≤ M) : Sps w ℓ sm M S := ⟨h.map, h.tb, fun x hx => ⟨(h.own x hx).1, Nat.lt_of_lt_of_le (h.own x hx).2 hM⟩, h.apart, h.ne, h.ls⟩
theorem Sps.names {w : World} {ℓ : Nat → Nat} {sm N : Nat} {S : List SpT} (h : Sps w ℓ sm N S) : S.Pairwise fun a b => a.s ≠ b.s := by
  have h1 := h.map.one
  unfold spK at h1
  rw [List.pairwise_map] at h1
  exact h1
end

section
open Go.RowKit

theorem Sps.look {w : World} {ℓ : Nat → Nat} {sm N : Nat} {S : List SpT} (h : Sps w ℓ sm N S) {s : List UInt8} (hs : s.length ≤ maxLen) {W : World} (hb : Below w.heap.size w W) : (Instr.lookup 74 (.map (some sm)) (.string (strB s)) false).run Tryz.prog W = .ok (ptrV ((fndS S s).map (·.b))) W := by
  have h1 := (h.map.below hb).look space_good (x := s) hs
  rw [at_sp] at h1
  exact h1
end
end Go.Proofs.YtkohppalfcalbaaGreat
