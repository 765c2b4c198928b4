/- Package disk, its calls as a law meets them; the document's Pick. -/
import Derived.Test.YtkjgiabkhemcnaaDGW
import Derived.Test.YtkjgiabkhemcnaaKY
namespace Go.Proofs.Ytkjgiabkhemcnaa
open Go.RowKit

/-- what Read answers where the bytes are -/
def RdY (w : World) (l' : List UInt8) (e : Ending) (w' : World) : Prop := ∃ v, e = .returned (.tuple #[v, .int .i64 0]) ∧ OwnB w' w.heap.size v l' ∧ Below w.heap.size w w'
theorem pickZ_one (c : Int) : pickZ c 1 = 0 := by have := pickZ_lt c (n := 1) (by omega); omega
/-- a string of one's own, put together -/
theorem cat_list (a b : ByteArray) : (a ++ b).data.toList = a.data.toList ++ b.data.toList := by simp
theorem box2 {w : World} {b : Nat} {x y : Value} {t : TypeId} {fr : Nat × Nat} (h : w.heap[b]? = some (.cells #[x, y] t fr)) : w.cell? ⟨b, 0, none⟩ = some x ∧ w.cell? ⟨b, 1, none⟩ = some y := by
  simp [World.cell?, h]
theorem onlyP {w w1 w2 : World} {B p : Nat} (hb : Below B w w1) (hB : B ≤ w.heap.size) (hO : Only (fun k => k = p) w1 w2) (hp : B ≤ p) : Below B w w2 := hb.trans (hO.below (Nat.le_trans hB hb.size) (fun j h => by omega))
theorem onlyPG {w w1 w2 : World} {B p g : Nat} (hb : Below B w w1) (hB : B ≤ w.heap.size) (hO : Only (fun k => k = p ∨ k = g) w1 w2) (hp : B ≤ p) (hg : B ≤ g) : Below B w w2 := hb.trans (hO.dk (Nat.le_trans hB hb.size) hp hg)
theorem belowM {w w1 w2 : World} {B : Nat} (hb : Below B w w1) (hB : B ≤ w.heap.size) (h : Below w1.heap.size w1 w2) : Below B w w2 := hb.trans (h.mono (Nat.le_trans hB hb.size))
theorem OwnB.heap {w w' : World} {B : Nat} {v : Value} {l : List UInt8} (h : OwnB w B v l) (e : w'.heap = w.heap) : OwnB w' B v l := by
  refine ⟨⟨h.1.1, ?_⟩, h.2⟩
  rcases h.1.2 with h1 | ⟨g, cap, cur, h1, h2, h3, h4⟩
  · exact .inl h1
  · exact .inr ⟨g, cap, cur, h1, h2, by rw [e]; exact h3, h4⟩
theorem RdB.heap {w w' : World} {B : Nat} {A : Option Addr} {l : List UInt8} (h : RdB w B A l) (e : w'.heap = w.heap) : RdB w' B A l := h.keep fun k _ => by rw [e]
theorem below_drew {w w' : World} (h : Below w.drew.heap.size w.drew w') : Below w.heap.size w w' := (drew_below w).trans h
end Go.Proofs.Ytkjgiabkhemcnaa
