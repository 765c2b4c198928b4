/- Package row: consume. -/
import Derived.Test.YthdhifnafgidaaaWH
namespace Go.Proofs.Ythdhifnafgidaaa
open Go.RowKit

/-- the source of some bytes, as consume leaves it -/
def CsT (w : World) (l : List UInt8) (e : Ending) (w' : World) : Prop := e = .returned (.func (.func 63) #[] #[.pointer (some ⟨w.heap.size, 0, none⟩)]) ∧ Src w' w.heap.size w.heap.size l ∧ Below w.heap.size w w'
theorem src_new (w : World) (l : List UInt8) (A : Option Addr) (cap : Nat) (hcap : l.length ≤ cap) (hr : RdB w w.heap.size A l) : Src (w.alloc (.cells #[.slice A l.length cap] 61)) w.heap.size w.heap.size l :=
  ⟨A, cap, heap_alloc_new w _, hcap, hr.below (alloc_below w _) (Nat.le_refl _), Nat.le_refl _⟩
set_option maxRecDepth 100000 in
theorem consume_any (l : List UInt8) (A : Option Addr) (n cap : Nat) (hn : n = l.length) (w : World) (hcap : l.length ≤ cap) (hr : RdB w w.heap.size A l) : Calls Try.prog 51 #[.slice A n cap] w (CsT w l) := by
  subst hn
  have HY := Lib.hid (And.intro (src_new w l A cap hcap hr) (alloc_below w (.cells #[.slice A l.length cap] 61)))
  clear hr hcap
  go_enter Try.func51, Try.ntmps51
  go_wp2_with fail
  go_ret
  exact ⟨rfl, HY.out⟩
/-- what Long answers -/
def LgT (w : World) (l : List UInt8) (e : Ending) (w' : World) : Prop := Below w.heap.size w w' ∧ ((∃ u r, u < 18446744073709551616 ∧ l = vL u ++ r ∧ e = .returned (.tuple #[.int .i64 (zag u), .int .i64 ((vL u).length : Int), .bool true])) ∨
  ((∀ u r, u < 18446744073709551616 → l ≠ vL u ++ r) ∧ e = .returned (.tuple #[.int .i64 0, .int .i64 0, .bool false])))
end Go.Proofs.Ythdhifnafgidaaa
