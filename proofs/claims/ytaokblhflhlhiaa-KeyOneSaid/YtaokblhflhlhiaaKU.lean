/- KeyOne: words for its law. -/
import Derived.Test.YtaokblhflhlhiaaKT
import Derived.Test.YtaokblhflhlhiaaKO
import Derived.Test.YtaokblhflhlhiaaKK
namespace Go.Proofs.Ytaokblhflhlhiaa
open Go.RowKit

def bx (x : Val) : Obj := .cells #[.int .i64 x.k, .int .i64 x.n, .string x.s] 37 (0, 0)
theorem heap_old {w : World} {g : Nat} {o p : Obj} (h : w.heap[g]? = some o) : (w.alloc p).heap[g]? = some o := by
  rw [Below.heap_alloc _ _ _ (Array.getElem?_eq_some_iff.1 h).1]
  exact h
theorem heap_new2 (w : World) (o p : Obj) : ((w.alloc o).alloc p).heap[w.heap.size + 1]? = some p := by
  have h := heap_alloc_new (w.alloc o) p
  have e : (w.alloc o).heap.size = w.heap.size + 1 := by simp
  rw [e] at h
  exact h
theorem below_heap {w w' : World} {g : Nat} {o : Obj} (h : w.heap[g]? = some o) (hb : Below w.heap.size w w') : w'.heap[g]? = some o := (hb.block g (Array.getElem?_eq_some_iff.1 h).1).trans h
/-- the world behind the law's first lines -/
structure ON (w : World) (a b : Val) (wr : World) : Prop where
  a0 : wr.heap[w.heap.size]? = some (bx a)
  b0 : wr.heap[w.heap.size + 1]? = some (bx b)
  a1 : wr.heap[w.heap.size + 1 + 1]? = some (bx a)
  b1 : wr.heap[w.heap.size + 1 + 1 + 1]? = some (bx b)
  bel : Below w.heap.size w wr
theorem ON.next {w wr wx : World} {a b : Val} (h : ON w a b wr) (hb : Below wr.heap.size wr wx) : ON w a b wx :=
  ⟨below_heap h.a0 hb, below_heap h.b0 hb, below_heap h.a1 hb, below_heap h.b1 hb, h.bel.trans (hb.mono h.bel.size)⟩
theorem ON.drew {w wr : World} {a b : Val} (h : ON w a b wr) : ON w a b wr.drew := h.next (drew_below wr)
theorem ON.start (w : World) (a b : Val) : ON w a b ((((w.alloc (bx a)).alloc (bx b)).alloc (bx a)).alloc (bx b)) := by
  have s1 : (w.alloc (bx a)).heap.size = w.heap.size + 1 := by simp
  have s2 : ((w.alloc (bx a)).alloc (bx b)).heap.size = w.heap.size + 1 + 1 := by simp
  have s3 : (((w.alloc (bx a)).alloc (bx b)).alloc (bx a)).heap.size = w.heap.size + 1 + 1 + 1 := by simp
  have h0 : (w.alloc (bx a)).heap[w.heap.size]? = some (bx a) := heap_alloc_new _ _
  have h1 : ((w.alloc (bx a)).alloc (bx b)).heap[w.heap.size + 1]? = some (bx b) := by rw [← s1]; exact heap_alloc_new _ _
  have h2 : (((w.alloc (bx a)).alloc (bx b)).alloc (bx a)).heap[w.heap.size + 1 + 1]? = some (bx a) := by rw [← s2]; exact heap_alloc_new _ _
  have h3 : ((((w.alloc (bx a)).alloc (bx b)).alloc (bx a)).alloc (bx b)).heap[w.heap.size + 1 + 1 + 1]? = some (bx b) := by rw [← s3]; exact heap_alloc_new _ _
  exact ⟨heap_old (heap_old (heap_old h0)), heap_old (heap_old h1), heap_old h2, h3, ((alloc2_below _ _ _).alloc (by simp; omega) _).alloc (by simp; omega) _⟩
theorem ON.six {w wr : World} {a b : Val} (h : ON w a b wr) : (wr.cell? ⟨w.heap.size, 0, none⟩ = some (.int .i64 a.k) ∧ wr.cell? ⟨w.heap.size, 1, none⟩ = some (.int .i64 a.n) ∧ wr.cell? ⟨w.heap.size, 2, none⟩ = some (.string a.s)) ∧
    wr.cell? ⟨w.heap.size + 1, 0, none⟩ = some (.int .i64 b.k) ∧ wr.cell? ⟨w.heap.size + 1, 1, none⟩ = some (.int .i64 b.n) ∧ wr.cell? ⟨w.heap.size + 1, 2, none⟩ = some (.string b.s) := ⟨box3 h.a0, box3 h.b0⟩
theorem few_n (l : List Val) (A : Option Addr) (n cap : Nat) (w : World) (hn : n = l.length) (hl : l.length ≤ maxLen) (hok : AllOk l) (hr : RdV w w.heap.size A l) :
    Calls Try.prog 9 #[.slice A n cap] w fun e w' => e = .returned (.bool (fewB l)) ∧ w = w' := by
  subst hn
  exact few_any l A cap w hl hok hr
theorem right_n (l : List Val) (A : Option Addr) (n cap : Nat) (w : World) (hn : n = l.length) (hl : l.length ≤ maxLen) (hok : AllOk l) (hr : RdV w w.heap.size A l) :
    Calls Try.prog 16 #[.slice A n cap] w (Ans (.bool (rightL l)) w) := by
  subst hn
  exact rightL_any l A cap w hl hok hr
theorem OwnB.low {w : World} {B C : Nat} {v : Value} {l : List UInt8} (h : OwnB w B v l) (hC : C ≤ B) : OwnB w C v l := by
  refine ⟨⟨h.1.1, ?_⟩, h.2⟩
  rcases h.1.2 with h1 | ⟨g, cap, cur, e, hb, hr⟩
  · exact .inl h1
  · exact .inr ⟨g, cap, cur, e, Nat.le_trans hC hb, hr⟩
theorem empty_own {w : World} {B g : Nat} (h : w.heap[g]? = some (.cells #[] 37 (0, 0))) (hB : B ≤ g) : OwnV w B (.slice (some ⟨g, 0, none⟩) 0 0) [] :=
  OwnV.of_row (n := 0) (l := []) ⟨rfl, .inr ⟨g, 0, #[], rfl, hB, h, Nat.le_refl _, by unfold maxLen; omega, rfl, rfl⟩⟩
end Go.Proofs.Ytaokblhflhlhiaa
