/- Package disk, its calls as a law meets them; the document's Pick. -/
import Derived.Test.YtknolgcbaoppcaaDGW
import Derived.Test.YtknolgcbaoppcaaKY
namespace Go.Proofs.Ytknolgcbaoppcaa
open Go.RowKit

theorem end_at {w : World} {B p g b s : Nat} {l : List UInt8} (h : Dk w B p g b s l) (m : Int) (hm : m = ((b + l.length : Nat) : Int)) : Calls Try.prog 21 #[.pointer (some ⟨p, 0, none⟩)] w (LooksN (.int .i64 m) w) := by
  subst hm
  exact end_any h
/-- what Append answers where there is room -/
def DkB (w : World) (B p g b s : Nat) (m : Int) (l' : List UInt8) (e : Ending) (w' : World) : Prop :=
  e = .returned (.tuple #[.int .i64 m, .int .i64 0]) ∧ ∃ g', Dk w' B p g' b s l' ∧ Only (fun k => k = p ∨ k = g) w w' ∧ (g' = g ∨ w.heap.size ≤ g')
theorem append_at {w : World} {B p g b s : Nat} {l : List UInt8} (h : Dk w B p g b s l) (hB : B ≤ w.heap.size) (ys : List UInt8) (C : Option Addr) (n c : Nat) (hn : ys.length = n) (hr : RdB w w.heap.size C ys) (hs : b + l.length + ys.length ≤ 100000) (m : Int) (hm : m = ((b + l.length : Nat) : Int)) (l' : List UInt8) (hl : l' = l ++ ys) :
    Calls Try.prog 83 #[.pointer (some ⟨p, 0, none⟩), .slice C n c] w (DkB w B p g b s m l') := by
  subst hm hl
  exact append_any h hB ys C n c hn hr hs
theorem sync_at {w : World} {B p g b s : Nat} {l : List UInt8} (h : Dk w B p g b s l) (s' : Nat) (hs : s' = b + l.length) : Calls Try.prog 58 #[.pointer (some ⟨p, 0, none⟩)] w (DkT w B p g b s' l (.int .i64 0)) := by
  subst hs
  exact sync_any h
/-- what Read answers where the bytes are -/
def RdY (w : World) (l' : List UInt8) (e : Ending) (w' : World) : Prop := ∃ v, e = .returned (.tuple #[v, .int .i64 0]) ∧ OwnB w' w.heap.size v l' ∧ Below w.heap.size w w'
theorem read_at {w : World} {B p g b s : Nat} {l : List UInt8} (h : Dk w B p g b s l) (i j : Nat) (hi : b ≤ i) (hij : i ≤ j) (hj : j ≤ b + l.length) (x y : Int) (hx : x = (i : Int)) (hy : y = (j : Int)) (l' : List UInt8) (hl : l' = (l.drop (i - b)).take (j - i)) :
    Calls Try.prog 55 #[.pointer (some ⟨p, 0, none⟩), .int .i64 x, .int .i64 y] w (RdY w l') := by
  subst hx hy hl
  exact read_yes h i j hi hij hj
/-- what Power answers -/
def PwS (w : World) (b s : Nat) (l : List UInt8) (e : Ending) (w' : World) : Prop := ∃ p' g', e = .returned (.pointer (some ⟨p', 0, none⟩)) ∧ Dk w' w.heap.size p' g' b s l ∧ Below w.heap.size w w'
theorem power_at {w : World} {B p g b s : Nat} {l : List UInt8} (h : Dk w B p g b s l) (c : Int) (hc : i64ok c) (n s' : Nat) (hn : n = pickZ c (b + l.length - s + 1)) (hs : s' = s + n) (l' : List UInt8) (hl : l' = l.take (s' - b)) :
    Calls Try.prog 18 #[.pointer (some ⟨p, 0, none⟩), .int .i64 c] w (PwS w b s' l') := by
  subst hn hs hl
  refine (power_any h c hc).mono ?_
  rintro e w' ⟨p', g', he, hd, hb⟩
  refine ⟨p', g', he, ?_, hb⟩
  have := h.bs
  rw [show s + pickZ c (b + l.length - s + 1) - b = s - b + pickZ c (b + l.length - s + 1) by omega]
  exact hd
theorem pickZ_one (c : Int) : pickZ c 1 = 0 := by have := pickZ_lt c (n := 1) (by omega); omega
set_option maxRecDepth 100000 in
theorem pick_any (c : Int) (n : Nat) (hn : 0 < n) (hn2 : n ≤ 100000) (hc : i64ok c) (m : Nat) (hm : m = pickZ c n) (y : Int) (hy : y = (n : Int)) (w : World) : Calls Try.prog 28 #[.int .i64 c, .int .i64 y] w (Looks (.int .i64 (m : Int)) w) := by
  subst hm hy
  obtain ⟨hc1, hc2⟩ := hc
  have hni : (0 : Int) < n := by omega
  have hni2 : (n : Int) ≤ 100000 := by omega
  by_cases h : c < 0
  · have HE : Hid (-(c + 1).tmod (n : Int) = (pickZ c n : Int)) := Lib.hid (by
      rw [← Int.neg_tmod, Int.tmod_eq_emod_of_nonneg (by omega)]
      unfold pickZ
      rw [if_pos h]
      have := Int.emod_nonneg (-(c + 1)) (b := (n : Int)) (by omega)
      rw [Int.toNat_of_nonneg this])
    go_enter Try.func28, Try.ntmps28
    go_wp2_with fail
    go_ret
    exact ⟨by rw [← HE.out]; rfl, rfl⟩
  · have HE : Hid (c % (n : Int) = (pickZ c n : Int)) := Lib.hid (by
      unfold pickZ
      rw [if_neg h]
      have := Int.emod_nonneg c (b := (n : Int)) (by omega)
      rw [Int.toNat_of_nonneg this])
    go_enter Try.func28, Try.ntmps28
    go_wp2_with fail
    go_ret
    exact ⟨by rw [← HE.out]; rfl, rfl⟩
/-- a string of one's own, put together -/
theorem cat_list (a b : ByteArray) : (a ++ b).data.toList = a.data.toList ++ b.data.toList := by simp
theorem box2 {w : World} {b : Nat} {x y : Value} {t : TypeId} {fr : Nat × Nat} (h : w.heap[b]? = some (.cells #[x, y] t fr)) : w.cell? ⟨b, 0, none⟩ = some x ∧ w.cell? ⟨b, 1, none⟩ = some y := by
  simp [World.cell?, h]
theorem onlyP {w w1 w2 : World} {B p : Nat} (hb : Below B w w1) (hB : B ≤ w.heap.size) (hO : Only (fun k => k = p) w1 w2) (hp : B ≤ p) : Below B w w2 := hb.trans (hO.below (Nat.le_trans hB hb.size) (fun j h => by omega))
theorem onlyPG {w w1 w2 : World} {B p g : Nat} (hb : Below B w w1) (hB : B ≤ w.heap.size) (hO : Only (fun k => k = p ∨ k = g) w1 w2) (hp : B ≤ p) (hg : B ≤ g) : Below B w w2 := hb.trans (hO.dk (Nat.le_trans hB hb.size) hp hg)
theorem belowM {w w1 w2 : World} {B : Nat} (hb : Below B w w1) (hB : B ≤ w.heap.size) (h : Below w1.heap.size w1 w2) : Below B w w2 := hb.trans (h.mono (Nat.le_trans hB hb.size))
theorem OwnB.heap {w w' : World} {B : Nat} {v : Value} {l : List UInt8} (h : OwnB w B v l) (e : w'.heap = w.heap) : OwnB w' B v l := by
  refine ⟨⟨h.1.1, ?_⟩, h.2⟩
  rcases h.1.2 with h1 | ⟨g, cap, cur, h1, h2, h3, h4⟩
  · exact .inl h1
  · exact .inr ⟨g, cap, cur, h1, h2, by rw [e]; exact h3, h4⟩
theorem RdB.heap {w w' : World} {B : Nat} {A : Option Addr} {l : List UInt8} (h : RdB w B A l) (e : w'.heap = w.heap) : RdB w' B A l := h.keep fun k _ => by rw [e]
theorem below_drew {w w' : World} (h : Below w.drew.heap.size w.drew w') : Below w.heap.size w w' := (drew_below w).trans h
end Go.Proofs.Ytknolgcbaoppcaa
