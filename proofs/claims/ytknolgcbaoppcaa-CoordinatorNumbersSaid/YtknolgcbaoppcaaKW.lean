/- Words of the layers that append bytes: what such a call answers, lists of values, few and right ones. -/
import Derived.Test.YtknolgcbaoppcaaKB
import Derived.Test.YtknolgcbaoppcaaKD
namespace Go.Proofs.Ytknolgcbaoppcaa
open Go.RowKit

/-- what a call that appends answers -/
def AppTo (B : Nat) (w : World) (v : Value) (l : List UInt8) (e : Ending) (w' : World) : Prop := ∃ v', e = .returned v' ∧ OwnB w' B v' l ∧ Grew w v w' v'
theorem OwnB.ne_fr {w : World} {B g : Nat} {v : Value} {l : List UInt8} {e : TypeId} {c : Array Value} {fr : Nat × Nat} (h : OwnB w B v l) (hg : w.heap[g]? = some (.cells c e fr)) (hf : fr ≠ (0, 0)) : v.ownBlock ≠ some g := own_ne_fr h.1 hg hf
theorem AppTo.from {B : Nat} {w : World} {v : Value} {l : List UInt8} {w1 w2 : World} {v1 : Value} {e : Ending} (h1 : Grew w v w1 v1) (h : AppTo B w1 v1 l e w2) : AppTo B w v l e w2 := by
  obtain ⟨v', rfl, ho, hg⟩ := h
  exact ⟨v', rfl, ho, h1.trans hg⟩
theorem OwnB.lt {w : World} {B : Nat} {v : Value} {l : List UInt8} (h : OwnB w B v l) : ∀ k, v.ownBlock = some k → k < w.heap.size := by
  rcases h.1.2 with ⟨rfl, _⟩ | ⟨g, c, cur, rfl, _, hh, _⟩
  · intro k e; cases e
  · intro k e
    have : g = k := by simpa [Value.ownBlock] using e
    subst this
    exact (Array.getElem?_eq_some_iff.1 hh).1
theorem box_kept {w w5 : World} {B : Nat} {v v5 : Value} {l : List UInt8} {o p q : Obj} (h : OwnB w B v l) (hb : (w.alloc o).heap[w.heap.size]? = some q) (hg : Grew ((w.alloc o).alloc p) v w5 v5) : w5.heap[w.heap.size]? = some q := by
  refine (hg.by_.block w.heap.size (by simp; omega) (fun e => by have := h.lt _ e.symm; omega)).trans ?_
  rw [Below.heap_alloc _ _ _ (by simp)]
  exact hb
theorem right_at' (x : Val) (hl : x.s.size ≤ 9223372036854775807) (w : World) : Calls Try.prog 81 #[.agg #[.int .i64 x.k, .int .i64 x.n, .string x.s]] w (Ans (.bool (rightB x)) w) := right_any x hl w
/-- may a list be told? -/
def encOk (l : List Val) : Prop := l.length ≤ 16 ∧ ∀ x ∈ l, rightB x = true
/-- a list of values as the call takes them: numbers in their kinds, texts that are there -/
def AllOk (l : List Val) : Prop := ∀ x ∈ l, x.ok ∧ x.s.size ≤ 9223372036854775807
theorem conv_own {w : World} {B : Nat} {v : Value} {l : List UInt8} (h : OwnB w B v l) : (convert 56 9 v).run Try.prog w = .ok (.string ⟨l.toArray⟩) w := conv_back h.1
def aliveL : List Val := [⟨2, -1, ⟨#[]⟩⟩, ⟨4, 0, ⟨#[97]⟩⟩]
theorem alive_R : ∀ x ∈ aliveL, x.R := by
  intro x hx
  simp only [aliveL, List.mem_cons, List.not_mem_nil, or_false] at hx
  rcases hx with rfl | rfl
  · exact ⟨by decide, by unfold Val.ok i64ok; simp only; omega⟩
  · exact ⟨by decide, by unfold Val.ok i64ok; simp only; omega⟩
theorem alive_rd (w : World) : RdV (w.alloc (.cells #[.int .i64 2, .int .i64 (-1), .string ⟨#[]⟩, .int .i64 4, .int .i64 0, .string ⟨#[97]⟩] 110)) (w.alloc (.cells #[.int .i64 2, .int .i64 (-1), .string ⟨#[]⟩, .int .i64 4, .int .i64 0, .string ⟨#[97]⟩] 110)).heap.size (some ⟨w.heap.size, 0, none⟩) aliveL := fun _ => by
  have hh : (w.alloc (.cells #[.int .i64 2, .int .i64 (-1), .string ⟨#[]⟩, .int .i64 4, .int .i64 0, .string ⟨#[97]⟩] 110)).heap[w.heap.size]? = _ := heap_alloc_new w _
  refine ⟨_, 0, rfl, by simp, fun j x hx => ?_⟩
  rw [cell_of_row _ _ _ _ _ (0, 0) hh, cell_of_row _ _ _ _ _ (0, 0) hh, cell_of_row _ _ _ _ _ (0, 0) hh]
  match j with
  | 0 => simp [aliveL] at hx; subst hx; exact ⟨rfl, rfl, rfl⟩
  | 1 => simp [aliveL] at hx; subst hx; exact ⟨rfl, rfl, rfl⟩
  | j + 2 => simp [aliveL] at hx
def fewB (l : List Val) : Bool := decide (l.length ≤ 20) && l.all fun x => decide (x.s.size ≤ 500)
def rightL (l : List Val) : Bool := decide (l.length ≤ 16) && l.all rightB
/-- at the head of few's loop -/
def FWL (l : List Val) (v3 : Value) : Prop := ∃ k : Nat, v3 = .int .i64 k ∧ k ≤ l.length ∧ k ≤ 20 ∧ ∀ x ∈ l.take k, x.s.size ≤ 500
theorem take_next {l : List Val} {k : Nat} {x : Val} {p : Val → Prop} (hx : l[k]? = some x) (h : ∀ y ∈ l.take k, p y) (hp : p x) : ∀ y ∈ l.take (k + 1), p y := by
  intro y hy
  rw [List.take_add_one, hx, Option.toList_some, List.mem_append, List.mem_singleton] at hy
  rcases hy with hy | rfl
  · exact h y hy
  · exact hp
end Go.Proofs.Ytknolgcbaoppcaa
