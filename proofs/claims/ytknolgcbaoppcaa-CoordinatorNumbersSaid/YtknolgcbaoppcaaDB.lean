/- Package disk: New, Begin, End, Safe, Sync. -/
import Derived.Test.YtknolgcbaoppcaaDA
namespace Go.Proofs.Ytknolgcbaoppcaa
open Go.RowKit

/-- a disk: its bytes l stand from the offset b on, those ahead of s are safe -/
structure Dk (w : World) (B p g b s : Nat) (l : List UInt8) : Prop where
  box : ∃ A cap, w.heap[p]? = some (.cells #[.int .i64 (b : Int), .int .i64 (s : Int), .slice A l.length cap] 58 (0, 0)) ∧ HeldAt w p g (.slice A l.length cap) l
  ge : B ≤ p ∧ B ≤ g
  bs : b ≤ s
  se : s ≤ b + l.length
  small : b + l.length ≤ 100000
theorem Dk.lt {w : World} {B p g b s : Nat} {l : List UInt8} (h : Dk w B p g b s l) : p < w.heap.size := by
  obtain ⟨A, cap, h1, _⟩ := h.box
  exact (Array.getElem?_eq_some_iff.1 h1).1
theorem Dk.only {K : Nat → Prop} {w w' : World} {B p g b s : Nat} {l : List UInt8} (h : Dk w B p g b s l) (hO : Only K w w') (hp : ¬ K p) (hg : ¬ K g) : Dk w' B p g b s l := by
  obtain ⟨A, cap, h1, h2⟩ := h.box
  exact ⟨⟨A, cap, (hO.block p h.lt hp).trans h1, h2.only hO (fun _ => hg)⟩, h.ge, h.bs, h.se, h.small⟩
theorem Dk.below {w w' : World} {B p g b s : Nat} {l : List UInt8} (h : Dk w B p g b s l) (hb : Below w.heap.size w w') : Dk w' B p g b s l := h.only (Only.of_below (K := fun _ => False) hb) id id
theorem Dk.more {w : World} {B C p g b s : Nat} {l : List UInt8} (h : Dk w B p g b s l) (hC : C ≤ B) : Dk w C p g b s l := ⟨h.box, ⟨Nat.le_trans hC h.ge.1, Nat.le_trans hC h.ge.2⟩, h.bs, h.se, h.small⟩
theorem free3 {w : World} {b : Nat} {x y z : Value} {t : TypeId} (h : w.heap[b]? = some (.cells #[x, y, z] t (0, 0))) (i : Nat) : w.frozen? ⟨b, i, none⟩ = false := by simp [World.frozen?, h]
/-- what New answers -/
def NewT (w : World) (e : Ending) (w' : World) : Prop := ∃ p, e = .returned (.pointer (some ⟨p, 0, none⟩)) ∧ Dk w' w.heap.size p p 0 0 [] ∧ Below w.heap.size w w'
theorem dk_new (w : World) : NewT w (.returned (.pointer (some ⟨w.heap.size, 0, none⟩))) (w.alloc (.cells #[.int .i64 0, .int .i64 0, .slice none 0 0] 58)) :=
  ⟨_, rfl, ⟨⟨none, 0, heap_alloc_new w _, .inl ⟨rfl, rfl, rfl⟩⟩, ⟨Nat.le_refl _, Nat.le_refl _⟩, Nat.le_refl _, Nat.le_refl _, by simp⟩, alloc_below w _⟩
set_option maxRecDepth 100000 in
theorem new_any (w : World) : Calls Try.prog 6 #[] w (NewT w) := by
  go_enter Try.func6, Try.ntmps6
  go_wp2_with fail
  go_ret
  exact dk_new w
theorem HeldAt.heap {w w' : World} {p g : Nat} {v : Value} {l : List UInt8} (h : HeldAt w p g v l) (e : w'.heap = w.heap) : HeldAt w' p g v l := by
  rcases h with h | ⟨hne, o, cap', hv, ho⟩
  · exact .inl h
  · exact .inr ⟨hne, o, cap', hv, ho.keep (by rw [e]; exact Nat.le_refl _) (by rw [e])⟩
theorem Dk.heap {w w' : World} {B p g b s : Nat} {l : List UInt8} (h : Dk w B p g b s l) (e : w'.heap = w.heap) : Dk w' B p g b s l := by
  obtain ⟨A, cap, h1, h2⟩ := h.box
  exact ⟨⟨A, cap, by rw [e]; exact h1, h2.heap e⟩, h.ge, h.bs, h.se, h.small⟩
/-- a call that only looks, and may draw -/
def LooksN (v : Value) (w : World) : Ending → World → Prop := fun e w' => e = .returned v ∧ ∃ n, w' = w.drewN n
/-- a call that only looks -/
def Looks (v : Value) (w : World) : Ending → World → Prop := fun e w' => e = .returned v ∧ w = w'
set_option maxRecDepth 100000 in
theorem begin_any {w : World} {B p g b s : Nat} {l : List UInt8} (h : Dk w B p g b s l) : Calls Try.prog 54 #[.pointer (some ⟨p, 0, none⟩)] w (Looks (.int .i64 (b : Int)) w) := by
  obtain ⟨A, cap, h1, _⟩ := h.box
  obtain ⟨x0, x1, x2⟩ := box3 h1
  clear h1 h
  go_enter Try.func54, Try.ntmps54
  go_wp2_with fail
  go_ret
  exact ⟨rfl, rfl⟩
set_option maxRecDepth 100000 in
theorem safe_any {w : World} {B p g b s : Nat} {l : List UInt8} (h : Dk w B p g b s l) : Calls Try.prog 22 #[.pointer (some ⟨p, 0, none⟩)] w (Looks (.int .i64 (s : Int)) w) := by
  obtain ⟨A, cap, h1, _⟩ := h.box
  obtain ⟨x0, x1, x2⟩ := box3 h1
  clear h1 h
  go_enter Try.func22, Try.ntmps22
  go_wp2_with fail
  go_ret
  exact ⟨rfl, rfl⟩
set_option maxRecDepth 100000 in
theorem end_any {w : World} {B p g b s : Nat} {l : List UInt8} (h : Dk w B p g b s l) : Calls Try.prog 21 #[.pointer (some ⟨p, 0, none⟩)] w (LooksN (.int .i64 ((b + l.length : Nat) : Int)) w) := by
  obtain ⟨A, cap, h1, _⟩ := h.box
  obtain ⟨x0, x1, x2⟩ := box3 h1
  have hbi : (b : Int) ≤ 100000 := by have := h.small; omega
  have hli : (l.length : Int) ≤ 100000 := by have := h.small; omega
  clear h1 h
  go_enter Try.func21, Try.ntmps21
  go_wp2_with fail
  go_quiet (fail)
  go_wp2_with fail
  go_ret
  exact ⟨by simp, _, rfl⟩
/-- what a call with an error alone answers of a disk -/
def DkT (w : World) (B p g b s : Nat) (l : List UInt8) (r : Value) (e : Ending) (w' : World) : Prop := e = .returned r ∧ Dk w' B p g b s l ∧ Only (fun k => k = p) w w'
theorem dk_safe {w : World} {B p g b s : Nat} {l : List UInt8} (h : Dk w B p g b s l) : Dk (w.setCell ⟨p, 1, none⟩ (.int .i64 ((b + l.length : Nat) : Int))) B p g b (b + l.length) l := by
  obtain ⟨A, cap, h1, h2⟩ := h.box
  refine ⟨⟨A, cap, ?_, ?_⟩, h.ge, Nat.le_add_right _ _, Nat.le_refl _, h.small⟩
  · simp [World.setCell, Array.getElem?_modify, h1]
  · exact h2.only (Only.set w p 1 _) (fun hne => hne)
set_option maxRecDepth 100000 in
theorem sync_any {w : World} {B p g b s : Nat} {l : List UInt8} (h : Dk w B p g b s l) : Calls Try.prog 58 #[.pointer (some ⟨p, 0, none⟩)] w (DkT w B p g b (b + l.length) l (.int .i64 0)) := by
  have HE := Lib.hid (end_any h)
  have HY := Lib.hid (fun n => And.intro (dk_safe (h.below (drewN_below w n))) ((Only.of_below (drewN_below w n)).trans (Only.set (w.drewN n) p 1 (.int .i64 ((b + l.length : Nat) : Int))) (fun _ _ e => e)))
  obtain ⟨A, cap, h1, _⟩ := h.box
  obtain ⟨x0, x1, x2⟩ := box3 h1
  have z1 := free3 h1 1
  clear h1 h
  go_enter Try.func58, Try.ntmps58
  go_wp2_with (go_at_call 21; refine HE.out.mono ?_; rintro e w2 ⟨rfl, n, rfl⟩)
  go_ret
  exact ⟨rfl, HY.out _⟩
end Go.Proofs.Ytknolgcbaoppcaa
