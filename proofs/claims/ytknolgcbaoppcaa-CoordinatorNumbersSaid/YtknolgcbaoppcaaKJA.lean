/- Rows of bytes of the call's own: the empty one, the last byte. -/
import Derived.Test.YtknolgcbaoppcaaKW
namespace Go.Proofs.Ytknolgcbaoppcaa
open Go.RowKit

theorem own_empty {w : World} {B : Nat} (h : B ≤ w.heap.size) (t : TypeId) : OwnB (w.alloc (.cells #[] 5)) B (.slice (some ⟨w.heap.size, 0, none⟩) 0 0) [] :=
  OwnB.of_row (n := 0) (l := []) (by have := t; exact own_lit (cs := #[]) (heap_alloc_new w _) h rfl (by omega))
theorem grew_below {w w1 w2 : World} {v v2 : Value} (hb : Below w.heap.size w w1) (hv : ∀ k, v.ownBlock = some k → w.heap.size ≤ k) (h : Grew w1 v w2 v2) : Below w.heap.size w w2 := hb.trans (h.toBelow hb.size hv)
/-- a row of one byte or more stands at a block's head -/
theorem OwnB.head {w : World} {B : Nat} {v : Value} {l : List UInt8} (h : OwnB w B v l) (hn : 0 < l.length) : ∃ g cap, v = .slice (some ⟨g, 0, none⟩) l.length cap ∧ B ≤ g := by
  rcases h.1.2 with ⟨_, h0⟩ | ⟨g, cap, cur, e, hg, _⟩
  · omega
  · exact ⟨g, cap, e, hg⟩
/-- the last byte of a row of the call's own, written -/
theorem own_set {w : World} {B m cap g : Nat} {l : List UInt8} {d : UInt8} {x : Int} (h : OwnB w B (.slice (some ⟨g, 0, none⟩) l.length cap) l) (hm : l.length = m + 1) (hx : x = (d.toNat : Int)) :
    OwnB (w.setCell ⟨g, m, none⟩ (.int .u8 x)) B (.slice (some ⟨g, 0, none⟩) l.length cap) (l.take m ++ [d]) := by
  subst hx
  have h1 := (h.1.stored (g := g) m (.int .u8 (d.toNat : Int))).1
  have e : (bytesV l).set m (.int .u8 (d.toNat : Int)) = bytesV (l.take m ++ [d]) := by
    apply List.ext_getElem?
    intro j
    rw [List.getElem?_set]
    simp only [bytesV, List.getElem?_map, List.length_map, List.getElem?_append, List.length_take, hm]
    have hmin : min m (m + 1) = m := by omega
    rw [hmin]
    by_cases hj : m = j
    · subst hj
      simp
    · rw [if_neg hj]
      by_cases hlt : j < m
      · rw [if_pos hlt, List.getElem?_take, if_pos hlt]
      · rw [if_neg hlt, List.getElem?_eq_none (by omega), List.getElem?_eq_none (by simp; omega)]
  rw [e] at h1
  exact OwnB.of_row h1
theorem own_get {w : World} {B m cap g : Nat} {l : List UInt8} {c : UInt8} (h : OwnB w B (.slice (some ⟨g, 0, none⟩) l.length cap) l) (hm : l.length = m + 1) (hc : l[m]? = some c) : w.cell? ⟨g, m, none⟩ = some (.int .u8 (c.toNat : Int)) ∧ w.frozen? ⟨g, m, none⟩ = false := by
  refine ⟨?_, h.1.frozenAt m⟩
  rw [h.1.cellAt m (by omega)]
  simp [bytesV, hc]
end Go.Proofs.Ytknolgcbaoppcaa
