/- Words for memory: rows of the call's own, appends. -/
import Derived.Test.YtfmhijaljlmgaaaA
import Derived.Deep.AppendLies
import Derived.Deep.RegionLaw
import Derived.Laws.AppendOwnNone
import Derived.StillTailTactics
import Derived.OwnWalk
namespace Go.Proofs.Ytfmhijaljlmgaaa
open Go.RowKit

theorem grownBy_below {w w' : World} {row : Option Nat} (h : Below w.heap.size w w') : w.grownBy w' row := ⟨h.os, h.tape, h.output, h.size, fun k hk _ => h.block k hk⟩
def Lst (w : World) (te : TypeId) (v : Value) (xs : List Value) : Prop := w.ownsRow 0 te 1 v xs.length xs ∧ ∀ x ∈ xs, x.oneCell' = true

theorem add_plain (g j : Nat) : (⟨g, 0, none⟩ : Addr).add j = ⟨g, j, none⟩ := by unfold Addr.add; split <;> simp_all
theorem own_lit {w : World} {B g k : Nat} {cs : Array Value} {e : TypeId} (h : w.heap[g]? = some (.cells cs e (0, 0))) (hB : B ≤ g) (hk : cs.size = k) (hm : k ≤ 1000000) : w.ownsRow B e 1 (.slice (some ⟨g, 0, none⟩) k k) k cs.toList :=
  ⟨by simp [hk], .inr ⟨g, k, cs, rfl, hB, h, Nat.le_refl _, by unfold maxLen; omega, by omega, List.take_of_length_le (by simp [hk])⟩⟩
theorem Lst.kept {w w' : World} {te : TypeId} {v : Value} {xs : List Value} {row : Option Nat} (h : Lst w te v xs) (hg : w.grownBy w' row) (hne : v.ownBlock = none ∨ v.ownBlock ≠ row) : Lst w' te v xs := ⟨h.1.kept hg hne, h.2⟩
theorem Lst.below {w w' : World} {te : TypeId} {v : Value} {xs : List Value} (h : Lst w te v xs) (hb : Below w.heap.size w w') : Lst w' te v xs := h.kept (grownBy_below (row := none) hb) (by cases hv : v.ownBlock <;> simp)

theorem own_below {w w' : World} {B n s : Nat} {e : TypeId} {v : Value} {xs : List Value} (h : w.ownsRow B e s v n xs) (hb : Below w.heap.size w w') : w'.ownsRow B e s v n xs := h.kept (grownBy_below (row := none) hb) (by cases hv : v.ownBlock <;> simp)
theorem info8 : (Try.prog.info? 5).map (fun i => (i.zero, i.size, i.bytes)) = some (some (.int .u8 0), 1, 1) := by kernel_rfl
def bytesV (l : List UInt8) : List Value := l.map fun b => .int .u8 (b.toNat : Int)
theorem bytesV_len (l : List UInt8) : (bytesV l).length = l.length := by simp [bytesV]
theorem conv_bytes (s : ByteArray) (w : World) : ∃ W2 cap, (convert 9 23 (.string s)).run Try.prog w = .ok (.slice (some ⟨w.heap.size, 0, none⟩) s.size cap) W2 ∧
    (∀ j c, s.data.toList[j]? = some c → W2.cell? ⟨w.heap.size, j, none⟩ = some (.int .u8 (c.toNat : Int))) ∧ Below w.heap.size w W2 ∧ s.size ≤ cap ∧ ∃ C fr, W2.heap[w.heap.size]? = some (.cells C 5 fr) ∧ fr ≠ (0, 0) := by
  refine ⟨_, _, run_bytes_of_string w 9 23 5 s Try.underlying9 Try.underlying23 Try.underlying5, fun j c hj => ?_, ?_, grownCap_ge _ _ _ _, _, _, heap_alloc_new w.drew _, by simp⟩
  · have hl : j < s.data.size := by
      have := (List.getElem?_eq_some_iff.1 hj).1
      simpa using this
    have hc : c = s.data[j] := by
      have := (List.getElem?_eq_some_iff.1 hj).2
      rw [← this]; simp
    have hh : (w.drew.alloc (.cells (bytesRow s (grownCap w s.size 0 5)) 5 ((bytesRow s (grownCap w s.size 0 5)).size, (bytesRow s (grownCap w s.size 0 5)).size + 1))).heap[w.heap.size]? = some (.cells (bytesRow s (grownCap w s.size 0 5)) 5 ((bytesRow s (grownCap w s.size 0 5)).size, (bytesRow s (grownCap w s.size 0 5)).size + 1)) := heap_alloc_new w.drew _
    simp only [World.cell?, hh]
    rw [hc]
    simpa using bytesRow_at s _ j hl
  · exact (drew_below w).trans (alloc_below w.drew _)
theorem conv_back {w : World} {B n : Nat} {v : Value} {l : List UInt8} (h : w.ownsRow B 5 1 v n (bytesV l)) : (convert 23 9 v).run Try.prog w = .ok (.string ⟨l.toArray⟩) w := by
  have hl := h.1
  rw [bytesV_len] at hl
  rcases h.2 with ⟨rfl, h0⟩ | ⟨g, cap, cur, rfl, _, hh, _⟩
  · have : l = [] := List.length_eq_zero_iff.1 (by omega)
    subst this
    exact run_convert_bytes_nil w _ _ Try.underlying23 Try.underlying5 _ _ _ Try.underlying9
  · have hn : n = l.length := by omega
    subst hn
    refine run_convert_bytes_back (P := Try.prog) w 23 9 5 ⟨g, 0, none⟩ cap l Try.underlying23 Try.underlying5 Try.underlying9 (fun j hj => ?_)
    exact h.cells rfl j _ (by simp [bytesV, hj])
end Go.Proofs.Ytfmhijaljlmgaaa
