/- LetterSame: the law's own body answers true. -/
import Derived.Test.YthdhifnafgidaaaZG
namespace Go.Proofs.Ythdhifnafgidaaa
open Go.RowKit

/-- two boxes that a law laid, later -/
structure LS (w W : World) (o0 o1 : Obj) : Prop where
  bel : Below w.heap.size w W
  x : W.heap[w.heap.size]? = some o0
  y : W.heap[w.heap.size + 1]? = some o1
theorem LS.next {w W W' : World} {o0 o1 : Obj} (h : LS w W o0 o1) (hb : Below W.heap.size W W') : LS w W' o0 o1 :=
  ⟨h.bel.trans (hb.mono h.bel.size), (hb.block _ (Array.getElem?_eq_some_iff.1 h.x).1).trans h.x, (hb.block _ (Array.getElem?_eq_some_iff.1 h.y).1).trans h.y⟩
theorem LS.start (w : World) (o0 o1 : Obj) : LS w ((w.alloc o0).alloc o1) o0 o1 :=
  ⟨alloc2_below w o0 o1, ((alloc_below (w.alloc o0) o1).block _ (by simp)).trans (heap_alloc_new w o0), by
    have h := heap_alloc_new (w.alloc o0) o1
    rw [show (w.alloc o0).heap.size = w.heap.size + 1 by simp] at h
    exact h⟩
theorem sameL_comm (a b : Ltr) : sameL b a = sameL a b := by
  rw [Bool.eq_iff_iff, sameL_eq, sameL_eq]
  exact ⟨fun h => h.symm, fun h => h.symm⟩
theorem sameL_self (a : Ltr) : sameL a a = true := (sameL_eq a a).2 rfl
/-- the letters' strings -/
theorem sameL_bytes {a b : Ltr} (ha : a.right = true) (hb : b.right = true) (s t : ByteArray) (hs : s.data.toList = a.bytes) (ht : t.data.toList = b.bytes) : (s.toList == t.toList) = sameL a b := by
  rw [Bool.eq_iff_iff, sameL_eq, beq_iff_eq, ByteArray.toList_eq, ByteArray.toList_eq, hs, ht]
  constructor
  · intro h
    exact (Ltr.inj (u := []) (v := []) ha hb (by rw [h])).1
  · rintro rfl; rfl
def lv (l : Ltr) (A : Option Addr) (n cap : Nat) : Obj := .cells #[.int .i64 l.k, .int .i64 l.f, .int .i64 l.t, .int .i64 l.x, .slice A n cap] 32
end Go.Proofs.Ythdhifnafgidaaa
