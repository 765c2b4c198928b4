/- Words for memory: rows of the call's own, appends. -/
import Derived.Test.YtjfbhajaddgmpaaDoorA
import Derived.Deep.AppendLies
import Derived.Deep.RegionLaw
import Derived.Laws.AppendOwnNone
import Derived.StillTailTactics
import Derived.OwnWalk
namespace Go.Proofs.YtjfbhajaddgmpaaDoor
open Go.RowKit

theorem grownBy_below {w w' : World} {row : Option Nat} (h : Below w.heap.size w w') : w.grownBy w' row := ⟨h.os, h.tape, h.output, h.size, fun k hk _ => h.block k hk⟩
def Lst (w : World) (te : TypeId) (v : Value) (xs : List Value) : Prop := w.ownsRow 0 te 1 v xs.length xs ∧ ∀ x ∈ xs, x.oneCell' = true

theorem Lst.kept {w w' : World} {te : TypeId} {v : Value} {xs : List Value} {row : Option Nat} (h : Lst w te v xs) (hg : w.grownBy w' row) (hne : v.ownBlock = none ∨ v.ownBlock ≠ row) : Lst w' te v xs := ⟨h.1.kept hg hne, h.2⟩
theorem Lst.below {w w' : World} {te : TypeId} {v : Value} {xs : List Value} (h : Lst w te v xs) (hb : Below w.heap.size w w') : Lst w' te v xs := h.kept (grownBy_below (row := none) hb) (by cases hv : v.ownBlock <;> simp)

theorem own_below {w w' : World} {B n s : Nat} {e : TypeId} {v : Value} {xs : List Value} (h : w.ownsRow B e s v n xs) (hb : Below w.heap.size w w') : w'.ownsRow B e s v n xs := h.kept (grownBy_below (row := none) hb) (by cases hv : v.ownBlock <;> simp)
def bytesV (l : List UInt8) : List Value := l.map fun b => .int .u8 (b.toNat : Int)
theorem bytesV_len (l : List UInt8) : (bytesV l).length = l.length := by simp [bytesV]
end Go.Proofs.YtjfbhajaddgmpaaDoor
