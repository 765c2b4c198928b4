/- Package row: takeValue: its box, and what is left of the source. -/
import Derived.Test.YthdhifnafgidaaaWN
namespace Go.Proofs.Ythdhifnafgidaaa
open Go.RowKit

/-- what takeValue answers -/
def TVT (W : World) (g B : Nat) (l : List UInt8) (e : Ending) (W' : World) : Prop := W.grownBy W' (some g) ∧ ∃ (x : Val) (ok : Bool) (r : List UInt8), e = .returned (.tuple #[x.v, .bool ok]) ∧ Src W' g B r ∧ ((ok = true ∧ x.R ∧ l = rowV x ++ r) ∨ (ok = false ∧ ∀ y r', y.R → l ≠ rowV y ++ r'))
/-- the value's box, the source, and what lay there before -/
structure GS (w : World) (g B : Nat) (W : World) (x : Val) (l : List UInt8) : Prop where
  lt : g < w.heap.size
  box : W.heap[w.heap.size]? = some (.cells #[.int .i64 x.k, .int .i64 x.n, .string x.s] 88 (0, 0))
  gr : w.grownBy W (some g)
  src : Src W g B l
theorem GS.new {w : World} {g B : Nat} {l : List UInt8} (h : Src w g B l) (k n : Int) (s : ByteArray) : GS w g B (w.alloc (.cells #[.int .i64 k, .int .i64 n, .string s] 88)) ⟨k, n, s⟩ l :=
  ⟨h.lt, heap_alloc_new w _, grown_of_below _ (alloc_below w _), h.keep (alloc_below w _)⟩
theorem GS.cells {w W : World} {g B : Nat} {k n : Int} {s : ByteArray} {l : List UInt8} (h : GS w g B W ⟨k, n, s⟩ l) : W.cell? ⟨w.heap.size, 0, none⟩ = some (.int .i64 k) ∧ W.cell? ⟨w.heap.size, 1, none⟩ = some (.int .i64 n) ∧ W.cell? ⟨w.heap.size, 2, none⟩ = some (.string s) := box3 h.box
theorem GS.froz {w W : World} {g B : Nat} {x : Val} {l : List UInt8} (h : GS w g B W x l) : W.frozen? ⟨w.heap.size, 0, none⟩ = false ∧ W.frozen? ⟨w.heap.size, 1, none⟩ = false ∧ W.frozen? ⟨w.heap.size, 2, none⟩ = false := by
  have h1 := h.box
  refine ⟨?_, ?_, ?_⟩ <;> simp [World.frozen?, h1]
theorem GS.size {w W : World} {g B : Nat} {x : Val} {l : List UInt8} (h : GS w g B W x l) : w.heap.size < W.heap.size := (Array.getElem?_eq_some_iff.1 h.box).1
theorem GS.keep {w W V : World} {g B : Nat} {x : Val} {l : List UInt8} (h : GS w g B W x l) (hb : Below W.heap.size W V) : GS w g B V x l :=
  ⟨h.lt, (hb.block _ h.size).trans h.box, grown_trans h.gr (grown_of_below _ hb), h.src.keep hb⟩
theorem GS.drew {w W : World} {g B : Nat} {x : Val} {l : List UInt8} (h : GS w g B W x l) : GS w g B W.drew x l := h.keep (drew_below W)
theorem GS.next {w W V : World} {g B : Nat} {x : Val} {l r : List UInt8} (h : GS w g B W x l) (hs : Src V g B r) (hg : W.grownBy V (some g)) : GS w g B V x r :=
  ⟨h.lt, (hg.block _ h.size (fun e => by injection e with e; have := h.lt; omega)).trans h.box, grown_trans h.gr hg, hs⟩
theorem GS.put {w W : World} {g B : Nat} {x y : Val} {l : List UInt8} {i : Nat} {v : Value} (h : GS w g B W x l) (hb : (W.setCell ⟨w.heap.size, i, none⟩ v).heap[w.heap.size]? = some (.cells #[.int .i64 y.k, .int .i64 y.n, .string y.s] 88 (0, 0))) : GS w g B (W.setCell ⟨w.heap.size, i, none⟩ v) y l := by
  have h2 := grown_set W w.heap.size i v
  have hlt := h.lt
  refine ⟨h.lt, hb, ⟨h2.os.trans h.gr.os, h2.tape.trans h.gr.tape, h2.output.trans h.gr.output, Nat.le_trans h.gr.size h2.size, fun b hb hne => (h2.block b (Nat.lt_of_lt_of_le hb h.gr.size) (fun e => by injection e with e; omega)).trans (h.gr.block b hb hne)⟩, h.src.other h2 hlt⟩
theorem GS.set0 {w W : World} {g B : Nat} {k n : Int} {s : ByteArray} {l : List UInt8} (h : GS w g B W ⟨k, n, s⟩ l) (k' : Int) : GS w g B (W.setCell ⟨w.heap.size, 0, none⟩ (.int .i64 k')) ⟨k', n, s⟩ l := h.put (by
  have h1 := h.box
  simp [World.setCell, Array.getElem?_modify, h1])
theorem GS.set1 {w W : World} {g B : Nat} {k n : Int} {s : ByteArray} {l : List UInt8} (h : GS w g B W ⟨k, n, s⟩ l) (n' : Int) : GS w g B (W.setCell ⟨w.heap.size, 1, none⟩ (.int .i64 n')) ⟨k, n', s⟩ l := h.put (by
  have h1 := h.box
  simp [World.setCell, Array.getElem?_modify, h1])
theorem GS.set2 {w W : World} {g B : Nat} {k n : Int} {s : ByteArray} {l : List UInt8} (h : GS w g B W ⟨k, n, s⟩ l) (s' : ByteArray) : GS w g B (W.setCell ⟨w.heap.size, 2, none⟩ (.string s')) ⟨k, n, s'⟩ l := h.put (by
  have h1 := h.box
  simp [World.setCell, Array.getElem?_modify, h1])
theorem GS.set {w W : World} {g B : Nat} {k n : Int} {s : ByteArray} {l : List UInt8} (h : GS w g B W ⟨k, n, s⟩ l) : GS w g B (((W.setCell ⟨w.heap.size, 0, none⟩ (.int .i64 k)).setCell ⟨w.heap.size, 1, none⟩ (.int .i64 n)).setCell ⟨w.heap.size, 2, none⟩ (.string s)) ⟨k, n, s⟩ l := ((h.set0 k).set1 n).set2 s
/-- the first byte is the kind -/
theorem row_head {c : UInt8} {t r : List UInt8} {y : Val} (hy : y.R) (h : c :: t = rowV y ++ r) : y.k = (c.toNat : Int) ∧ t = bodyR y.k y.n y.s.data.toList ++ r := by
  unfold rowV at h
  rw [List.cons_append, List.cons.injEq] at h
  have hk := R_k hy
  have g := congrArg UInt8.toNat h.1
  rw [ofNat_toNat (by omega)] at g
  exact ⟨by omega, h.2⟩
theorem rowR_none (y : Val) (r : List UInt8) : [] ≠ rowV y ++ r := by simp [rowV]
theorem rowR_kind {c : UInt8} {t : List UInt8} (h : 5 < c.toNat) : ∀ y r, Val.R y → c :: t ≠ rowV y ++ r := fun y r hy e => by
  have := (row_head hy e).1
  have := R_k hy
  omega
theorem row_0 (t : List UInt8) : Val.R ⟨0, 0, ⟨#[]⟩⟩ ∧ 0 :: t = rowV ⟨0, 0, ⟨#[]⟩⟩ ++ t := ⟨⟨by decide, ⟨by unfold i64ok; decide, by unfold i64ok; decide⟩⟩, rfl⟩
theorem row_1n : ∀ y r, Val.R y → [1] ≠ rowV y ++ r := fun y r hy e => by
  obtain ⟨h1, h2⟩ := row_head hy e
  have h1' : y.k = 1 := h1
  simp [bodyR, h1'] at h2
theorem row_1y {d : UInt8} (h : d.toNat ≤ 1) (t : List UInt8) : Val.R ⟨1, d.toNat, ⟨#[]⟩⟩ ∧ 1 :: d :: t = rowV ⟨1, d.toNat, ⟨#[]⟩⟩ ++ t := by
  have : d = 0 ∨ d = 1 := by
    rcases Nat.lt_or_ge d.toNat 1 with h1 | h1
    · exact .inl (u8_ext (by have : (0 : UInt8).toNat = 0 := rfl; omega))
    · exact .inr (u8_ext (by have : (1 : UInt8).toNat = 1 := rfl; omega))
  rcases this with rfl | rfl
  · exact ⟨⟨by decide, ⟨by unfold i64ok; decide, by unfold i64ok; decide⟩⟩, rfl⟩
  · exact ⟨⟨by decide, ⟨by unfold i64ok; decide, by unfold i64ok; decide⟩⟩, rfl⟩
theorem row_1b {d : UInt8} {t : List UInt8} (h : 1 < d.toNat) : ∀ y r, Val.R y → 1 :: d :: t ≠ rowV y ++ r := fun y r hy e => by
  obtain ⟨h1, h2⟩ := row_head hy e
  have h1' : y.k = 1 := h1
  rcases hy.cases with ⟨a, _⟩ | ⟨a, b, _⟩ | ⟨a, _⟩ | ⟨a, _⟩
  · omega
  · rw [h1'] at h2
    simp only [bodyR, if_true, List.cons_append, List.nil_append, List.cons.injEq] at h2
    have g := congrArg UInt8.toNat h2.1
    rw [ofNat_toNat (by omega)] at g
    omega
  · omega
  · omega
theorem row_num {c : UInt8} {u : Nat} (hc : c.toNat = 2 ∨ c.toNat = 3) (hu : u < 18446744073709551616) (r : List UInt8) : Val.R ⟨c.toNat, zag u, ⟨#[]⟩⟩ ∧ c :: (vL u ++ r) = rowV ⟨c.toNat, zag u, ⟨#[]⟩⟩ ++ r := by
  have hk : ((c.toNat : Nat) : Int) = 2 ∨ ((c.toNat : Nat) : Int) = 3 := by omega
  refine ⟨⟨?_, ⟨by unfold i64ok; constructor <;> simp only <;> omega, zag_ok hu⟩⟩, ?_⟩
  · unfold rightB
    rw [if_neg (by simp only; omega), if_pos (by simp only; omega)]
    rfl
  · unfold rowV bodyR
    simp only
    rw [if_neg (by omega), if_pos hk, zig_zag]
    congr 1
    exact u8_ext (by simp)
theorem row_numn {c : UInt8} {t : List UInt8} (hc : c.toNat = 2 ∨ c.toNat = 3) (h : ∀ u r, u < 18446744073709551616 → t ≠ vL u ++ r) : ∀ y r, Val.R y → c :: t ≠ rowV y ++ r := fun y r hy e => by
  obtain ⟨h1, h2⟩ := row_head hy e
  unfold bodyR at h2
  rw [if_neg (by omega), if_pos (by omega)] at h2
  exact h _ _ (zig_lt hy.2.2.1 hy.2.2.2) h2
theorem row_text {c : UInt8} {s : List UInt8} (hc : c.toNat = 4 ∨ c.toNat = 5) (hs : s.length ≤ 200) (r : List UInt8) : Val.R ⟨c.toNat, 0, ⟨s.toArray⟩⟩ ∧ c :: (vL (zig (s.length : Int)) ++ (s ++ r)) = rowV ⟨c.toNat, 0, ⟨s.toArray⟩⟩ ++ r := by
  refine ⟨⟨?_, ⟨by unfold i64ok; constructor <;> simp only <;> omega, by unfold i64ok; constructor <;> simp only <;> omega⟩⟩, ?_⟩
  · unfold rightB
    rw [if_neg (by simp only; omega), if_neg (by simp only; omega), if_pos (by simp only; omega)]
    have : (⟨s.toArray⟩ : ByteArray).size = s.length := by show s.toArray.size = s.length; simp
    simp [this, hs]
  · unfold rowV bodyR
    simp only
    rw [if_neg (by omega), if_neg (by omega), if_pos (by omega), List.cons_append, List.append_assoc]
    congr 1
    exact u8_ext (by simp)
theorem row_textn {c : UInt8} {t : List UInt8} (hc : c.toNat = 4 ∨ c.toNat = 5) (h : ∀ s r : List UInt8, s.length ≤ 200 → t ≠ vL (zig (s.length : Int)) ++ (s ++ r)) : ∀ y r, Val.R y → c :: t ≠ rowV y ++ r := fun y r hy e => by
  obtain ⟨h1, h2⟩ := row_head hy e
  unfold bodyR at h2
  rw [if_neg (by omega), if_neg (by omega), if_pos (by omega), List.append_assoc] at h2
  refine h y.s.data.toList r ?_ h2
  rcases hy.cases with ⟨a, _⟩ | ⟨a, _⟩ | ⟨a, _⟩ | ⟨a, _, b⟩
  · omega
  · omega
  · omega
  · have e2 : y.s.data.toList.length = y.s.size := by simp
    omega
end Go.Proofs.Ythdhifnafgidaaa
