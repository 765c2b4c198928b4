/- Package table: join. -/
import Derived.Test.YtkohppalfcalbaaGreatPM1
import Derived.Deep.QuietTactic
import Derived.BigQuiet
namespace Go.Proofs.YtkohppalfcalbaaGreat
open Go.RowKit

/-- what join and remove answer -/
def JoT (w : World) (G D : Nat → Prop) (q c : Nat) (L : List Ent) (k : Nat) (e : Ending) (w' : World) : Prop := e = .returned (.tuple #[]) ∧ ∃ G' P' ps', Tb0 w' G' D q P' c ps' ∧ flat ps' = L ∧ (∀ p ∈ ps', p.es ≠ [] ∧ p.es.length ≤ 128) ∧ k ≤ ps'.length ∧ (∀ j, G' j → G j ∨ w.heap.size ≤ j) ∧ Only G w w'
/-- two pages side by side: where they lie -/
structure TwoPg (W : World) (q P o cap i n : Nat) (A1 A2 : Option Addr) (n1 c1 n2 c2 : Nat) : Prop where
  x0 : W.cell? ⟨q, 0, none⟩ = some (.slice (some ⟨P, o, none⟩) n cap)
  x1 : W.cell? ⟨P, o + i, none⟩ = some (.slice A1 n1 c1)
  x2 : W.cell? ⟨P, o + (i + 1), none⟩ = some (.slice A2 n2 c2)
theorem Tb0.two {w : World} {G D : Nat → Prop} {q P c i : Nat} {p1 p2 : Pg} {ps : List Pg} (h : Tb0 w G D q P c ps) (h1 : ps[i]? = some p1) (h2 : ps[i + 1]? = some p2) : ∃ o cap A1 c1 A2 c2, p1.v = .slice A1 p1.es.length c1 ∧ p2.v = .slice A2 p2.es.length c2 ∧ w.heap[q]? = some (.cells #[.slice (some ⟨P, o, none⟩) ps.length cap, .int .i64 (c : Int)] 147 (0, 0)) ∧ OwnC w P o cap 1 ps.length (pagesV ps) ∧ P ≠ q ∧ TwoPg w q P o cap i ps.length A1 A2 p1.es.length c1 p2.es.length c2 := by
  obtain ⟨o, cap, h3, h4, h5⟩ := h.cap h1
  obtain ⟨A1, c1, h6, _⟩ := (h.page p1 (List.mem_of_getElem? h1)).1.slice
  obtain ⟨A2, c2, h7, _⟩ := (h.page p2 (List.mem_of_getElem? h2)).1.slice
  refine ⟨o, cap, A1, c1, A2, c2, h6, h7, h3, h4, h5, (box2 h3).1, ?_, ?_⟩
  · rw [← h6]; exact h4.cell i _ (by unfold pagesV; rw [List.getElem?_map, h1]; rfl)
  · rw [← h7]; exact h4.cell (i + 1) _ (by unfold pagesV; rw [List.getElem?_map, h2]; rfl)
end Go.Proofs.YtkohppalfcalbaaGreat
