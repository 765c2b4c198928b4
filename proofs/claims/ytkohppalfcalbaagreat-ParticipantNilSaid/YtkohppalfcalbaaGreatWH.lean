/- Package row: bytes handed out one by one. -/
import Derived.Test.YtkohppalfcalbaaGreatWX
import Derived.Test.YtkohppalfcalbaaGreatKX
namespace Go.Proofs.YtkohppalfcalbaaGreat
open Go.RowKit

/-- bytes that are handed out one by one: what is left lies below block B, and its slice in block g -/
def Src (W : World) (g B : Nat) (l : List UInt8) : Prop := ∃ A cap, W.heap[g]? = some (.cells #[.slice A l.length cap] 22 (0, 0)) ∧ l.length ≤ cap ∧ RdB W B A l ∧ B ≤ g
theorem Src.lt {W : World} {g B : Nat} {l : List UInt8} (h : Src W g B l) : g < W.heap.size := by
  obtain ⟨A, cap, h1, _⟩ := h
  exact (Array.getElem?_eq_some_iff.1 h1).1
theorem Src.keep {W V : World} {g B : Nat} {l : List UInt8} (h : Src W g B l) (hb : Below W.heap.size W V) : Src V g B l := by
  obtain ⟨A, cap, h1, h2, h3, h4⟩ := h
  have hlt := (Array.getElem?_eq_some_iff.1 h1).1
  exact ⟨A, cap, (hb.block _ hlt).trans h1, h2, h3.below hb (by omega), h4⟩
theorem grown_refl (w : World) (o : Option Nat) : w.grownBy w o := ⟨rfl, rfl, rfl, Nat.le_refl _, fun _ _ _ => rfl⟩
theorem grown_trans {w w1 w2 : World} {o : Option Nat} (h : w.grownBy w1 o) (k : w1.grownBy w2 o) : w.grownBy w2 o :=
  ⟨k.os.trans h.os, k.tape.trans h.tape, k.output.trans h.output, Nat.le_trans h.size k.size, fun b hb hne => (k.block b (Nat.lt_of_lt_of_le hb h.size) hne).trans (h.block b hb hne)⟩
theorem grown_set (w : World) (g i : Nat) (v : Value) : w.grownBy (w.setCell ⟨g, i, none⟩ v) (some g) := by
  refine ⟨by simp [World.setCell], by simp [World.setCell], by simp [World.setCell], by simp [World.setCell], fun b hb hne => ?_⟩
  have : ¬ g = b := fun e => hne (by rw [e])
  simp [World.setCell, Array.getElem?_modify, this]
theorem grown_below' {w w1 : World} {g B : Nat} (h : w.grownBy w1 (some g)) (hB : B ≤ g) (hw : B ≤ w.heap.size) : Below B w w1 :=
  ⟨h.os, h.tape, h.output, h.size, fun b hb => h.block b (by omega) (fun e => by injection e with e; omega)⟩
/-- the next byte -/
theorem Src.set {W : World} {g B : Nat} {c : UInt8} {t : List UInt8} {A : Option Addr} {cap : Nat} (h1 : W.heap[g]? = some (.cells #[.slice A (c :: t).length cap] 22 (0, 0))) (h2 : (c :: t).length ≤ cap) (h3 : RdB W B A (c :: t)) (h4 : B ≤ g) {A' : Option Addr} {cap' : Nat} (hA : A' = if cap = 1 then A else A.map (·.add 1)) (hc : cap' = cap - 1) :
    Src (W.setCell ⟨g, 0, none⟩ (.slice A' t.length cap')) g B t ∧ W.grownBy (W.setCell ⟨g, 0, none⟩ (.slice A' t.length cap')) (some g) := by
  refine ⟨⟨A', cap', ?_, ?_, ?_, h4⟩, grown_set _ _ _ _⟩
  · simp [World.setCell, Array.getElem?_modify, h1]
  · rw [List.length_cons] at h2; omega
  · have h := h3.drop (k := 1) h2
    rw [← hA] at h
    refine RdB.keep h fun k hk => ?_
    have : ¬ g = k := by omega
    simp [World.setCell, Array.getElem?_modify, this]
end Go.Proofs.YtkohppalfcalbaaGreat
