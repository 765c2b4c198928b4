/- Package row: Long. -/
import Derived.Test.YtnifbhcnehcgiaaWH
namespace Go.Proofs.Ytnifbhcnehcgiaa
open Go.RowKit

/-- the source of some bytes, as consume leaves it -/
def CsT (w : World) (l : List UInt8) (e : Ending) (w' : World) : Prop := e = .returned (.func (.func 43) #[] #[.pointer (some ⟨w.heap.size, 0, none⟩)]) ∧ Src w' w.heap.size w.heap.size l ∧ Below w.heap.size w w'
theorem src_new (w : World) (l : List UInt8) (A : Option Addr) (cap : Nat) (hcap : l.length ≤ cap) (hr : RdB w w.heap.size A l) : Src (w.alloc (.cells #[.slice A l.length cap] 23)) w.heap.size w.heap.size l :=
  ⟨A, cap, heap_alloc_new w _, hcap, hr.below (alloc_below w _) (Nat.le_refl _), Nat.le_refl _⟩
set_option maxRecDepth 100000 in
theorem consume_any (l : List UInt8) (A : Option Addr) (n cap : Nat) (hn : n = l.length) (w : World) (hcap : l.length ≤ cap) (hr : RdB w w.heap.size A l) : Calls Try.prog 34 #[.slice A n cap] w (CsT w l) := by
  subst hn
  have HY := Lib.hid (And.intro (src_new w l A cap hcap hr) (alloc_below w (.cells #[.slice A l.length cap] 23)))
  clear hr hcap
  go_enter Try.func34, Try.ntmps34
  go_wp2_with fail
  go_ret
  exact ⟨rfl, HY.out⟩
/-- what Long answers -/
def LgT (w : World) (l : List UInt8) (e : Ending) (w' : World) : Prop := Below w.heap.size w w' ∧ ((∃ u r, u < 18446744073709551616 ∧ l = vL u ++ r ∧ e = .returned (.tuple #[.int .i64 (zag u), .int .i64 ((vL u).length : Int), .bool true])) ∨
  ((∀ u r, u < 18446744073709551616 → l ≠ vL u ++ r) ∧ e = .returned (.tuple #[.int .i64 0, .int .i64 0, .bool false])))
set_option maxRecDepth 100000 in
theorem long_any (l : List UInt8) (A : Option Addr) (n cap : Nat) (hn : n = l.length) (w : World) (hcap : l.length ≤ cap) (hr : RdB w w.heap.size A l) : Calls Try.prog 23 #[.slice A n cap] w (LgT w l) := by
  have HC := Lib.hid (consume_any l A n cap hn w hcap hr)
  clear hn hcap hr
  go_enter Try.func23, Try.ntmps23
  go_wp2_with fail
  refine HC.out.mono ?_
  rintro e w1 ⟨rfl, hs, hb⟩
  have HS := Lib.hid hs
  have HB := Lib.hid hb
  clear hs hb
  go_wp2_with fail
  refine (takeNumber_any l w.heap.size w.heap.size w1 HS.out).mono ?_
  rintro e w2 ⟨hg, hcase⟩
  have HB := Lib.hid (HB.out.trans (grown_below' hg (Nat.le_refl _) HB.out.size))
  clear hg
  rcases hcase with ⟨u, r, hu, hl, rfl, _⟩ | ⟨hno, rfl, _⟩
  · have HY : Hid (LgT w l (.returned (.tuple #[.int .i64 (zag u), .int .i64 ((vL u).length : Int), .bool true])) w2) := Lib.hid ⟨HB.out, .inl ⟨u, r, hu, hl, rfl⟩⟩
    clear hu hl
    go_wp2_with fail
    go_ret3
    exact HY.out
  · have HY : Hid (LgT w l (.returned (.tuple #[.int .i64 0, .int .i64 0, .bool false])) w2) := Lib.hid ⟨HB.out, .inr ⟨hno, rfl⟩⟩
    clear hno
    go_wp2_with fail
    go_ret3
    exact HY.out
/-- Long of a number's short one, whatever is behind -/
theorem long_yes (u : Nat) (r l : List UInt8) (hl : l = vL u ++ r) (hu : u < 18446744073709551616) (A : Option Addr) (n cap : Nat) (hn : n = l.length) (w : World) (hcap : l.length ≤ cap) (hr : RdB w w.heap.size A l) :
    Calls Try.prog 23 #[.slice A n cap] w (Ans (.tuple #[.int .i64 (zag u), .int .i64 ((vL u).length : Int), .bool true]) w) := by
  refine (long_any l A n cap hn w hcap hr).mono fun e w' ⟨hb, h⟩ => ?_
  rcases h with ⟨v, s, _, h2, rfl⟩ | ⟨h, _⟩
  · obtain ⟨rfl, _⟩ := vL_inj (h2.symm.trans hl)
    exact ⟨rfl, hb⟩
  · exact absurd hl (h u r hu)
theorem long_no (l : List UInt8) (hno : ∀ u r, u < 18446744073709551616 → l ≠ vL u ++ r) (A : Option Addr) (n cap : Nat) (hn : n = l.length) (w : World) (hcap : l.length ≤ cap) (hr : RdB w w.heap.size A l) :
    Calls Try.prog 23 #[.slice A n cap] w (Ans (.tuple #[.int .i64 0, .int .i64 0, .bool false]) w) := by
  refine (long_any l A n cap hn w hcap hr).mono fun e w' ⟨hb, h⟩ => ?_
  rcases h with ⟨v, s, hv, h2, _⟩ | ⟨_, rfl⟩
  · exact absurd h2 (hno v s hv)
  · exact ⟨rfl, hb⟩
end Go.Proofs.Ytnifbhcnehcgiaa
