/- Package disk: New, Begin, End, Safe, Sync. -/
import Derived.Test.YtkjgiabkhemcnaaDA
namespace Go.Proofs.Ytkjgiabkhemcnaa
open Go.RowKit

theorem free3 {w : World} {b : Nat} {x y z : Value} {t : TypeId} (h : w.heap[b]? = some (.cells #[x, y, z] t (0, 0))) (i : Nat) : w.frozen? ⟨b, i, none⟩ = false := by simp [World.frozen?, h]
theorem HeldAt.heap {w w' : World} {p g : Nat} {v : Value} {l : List UInt8} (h : HeldAt w p g v l) (e : w'.heap = w.heap) : HeldAt w' p g v l := by
  rcases h with h | ⟨hne, o, cap', hv, ho⟩
  · exact .inl h
  · exact .inr ⟨hne, o, cap', hv, ho.keep (by rw [e]; exact Nat.le_refl _) (by rw [e])⟩
/-- a call that only looks, and may draw -/
def LooksN (v : Value) (w : World) : Ending → World → Prop := fun e w' => e = .returned v ∧ ∃ n, w' = w.drewN n
/-- a call that only looks -/
def Looks (v : Value) (w : World) : Ending → World → Prop := fun e w' => e = .returned v ∧ w = w'
end Go.Proofs.Ytkjgiabkhemcnaa
