/- Package key: cutValue. -/
import Derived.Test.YtjnjolhokcmmhaaKDE
namespace Go.Proofs.Ytjnjolhokcmmhaa
open Go.RowKit
/-- a value's box, and what lay there before -/
def VB (w W : World) (x : Val) : Prop := W.heap[w.heap.size]? = some (.cells #[.int .i64 x.k, .int .i64 x.n, .string x.s] 68 (0, 0)) ∧ Below w.heap.size w W
theorem VB.new (w : World) (k n : Int) (s : ByteArray) : VB w (w.alloc (.cells #[.int .i64 k, .int .i64 n, .string s] 68)) ⟨k, n, s⟩ := ⟨heap_alloc_new w _, alloc_below w _⟩
theorem VB.cells {w W : World} {k n : Int} {s : ByteArray} (h : VB w W ⟨k, n, s⟩) : W.cell? ⟨w.heap.size, 0, none⟩ = some (.int .i64 k) ∧ W.cell? ⟨w.heap.size, 1, none⟩ = some (.int .i64 n) ∧ W.cell? ⟨w.heap.size, 2, none⟩ = some (.string s) := box3 h.1
theorem VB.froz {w W : World} {x : Val} (h : VB w W x) : W.frozen? ⟨w.heap.size, 0, none⟩ = false ∧ W.frozen? ⟨w.heap.size, 1, none⟩ = false ∧ W.frozen? ⟨w.heap.size, 2, none⟩ = false := by
  have h1 := h.1
  refine ⟨?_, ?_, ?_⟩ <;> simp [World.frozen?, h1]
theorem VB.keep {w W V : World} {x : Val} (h : VB w W x) (hb : Below W.heap.size W V) : VB w V x := ⟨(hb.block _ (Array.getElem?_eq_some_iff.1 h.1).1).trans h.1, h.2.trans (hb.mono h.2.size)⟩
theorem VB.drew {w W : World} {x : Val} (h : VB w W x) : VB w W.drew x := h.keep (drew_below W)
theorem VB.set0 {w W : World} {k n : Int} {s : ByteArray} (h : VB w W ⟨k, n, s⟩) (k' : Int) : VB w (W.setCell ⟨w.heap.size, 0, none⟩ (.int .i64 k')) ⟨k', n, s⟩ := by
  refine ⟨?_, h.2.setCell (Nat.le_refl _) _⟩
  have h1 := h.1
  simp [World.setCell, Array.getElem?_modify, h1]
theorem VB.set1 {w W : World} {k n : Int} {s : ByteArray} (h : VB w W ⟨k, n, s⟩) (n' : Int) : VB w (W.setCell ⟨w.heap.size, 1, none⟩ (.int .i64 n')) ⟨k, n', s⟩ := by
  refine ⟨?_, h.2.setCell (Nat.le_refl _) _⟩
  have h1 := h.1
  simp [World.setCell, Array.getElem?_modify, h1]
theorem VB.set2 {w W : World} {k n : Int} {s : ByteArray} (h : VB w W ⟨k, n, s⟩) (s' : ByteArray) : VB w (W.setCell ⟨w.heap.size, 2, none⟩ (.string s')) ⟨k, n, s'⟩ := by
  refine ⟨?_, h.2.setCell (Nat.le_refl _) _⟩
  have h1 := h.1
  simp [World.setCell, Array.getElem?_modify, h1]
theorem VB.set {w W : World} {k n : Int} {s : ByteArray} (h : VB w W ⟨k, n, s⟩) : VB w (((W.setCell ⟨w.heap.size, 0, none⟩ (.int .i64 k)).setCell ⟨w.heap.size, 1, none⟩ (.int .i64 n)).setCell ⟨w.heap.size, 2, none⟩ (.string s)) ⟨k, n, s⟩ := ((h.set0 k).set1 n).set2 s
theorem RdB.back {w w' : World} {C : Nat} {A : Option Addr} {l : List UInt8} (h : RdB w' C A l) (hb : Below w.heap.size w w') (hC : C ≤ w.heap.size) : RdB w C A l := fun hn => by
  obtain ⟨ad, e, h1, hc⟩ := h hn
  exact ⟨ad, e, h1, fun j c hj => (hb.cell (by rw [addr_add_block]; omega)).symm.trans (hc j c hj)⟩
theorem cut_num_yes {t : List UInt8} {A : Option Addr} {cap m : Nat} {w : World} {x : Val} (hm : m = 1 ∨ m = 8) (hcap : t.length ≤ cap) {C : Nat} (hC : C ≤ w.heap.size) (hr : RdB w C A t) (hl : m ≤ t.length) (W : World) (hv : VB w W x) (_hs : W.heap.size = w.heap.size + 1) : Calls Try.prog 51 #[.slice A t.length cap, .int .i64 m] W (fun e w' => VB w w' x ∧ ∃ A' cap', e = .returned (.tuple #[.int .u64 (beVal (t.take m)), .slice A' (t.length - m) cap', .bool true]) ∧ RdB w C A' (t.drop m) ∧ t.length - m ≤ cap') := (cutNumber_any t A cap m hm hcap W (Nat.le_trans hC hv.2.size) (hr.below hv.2 hC)).mono fun e w' h => by
  obtain ⟨h1, ⟨_, A', cap', h2, h3, h4⟩ | ⟨h2, _⟩⟩ := h
  · exact ⟨hv.keep h1, A', cap', h2, h3.back (hv.keep h1).2 hC, h4⟩
  · omega
theorem cut_num_no {t : List UInt8} {A : Option Addr} {cap m : Nat} {w : World} {x : Val} (hm : m = 1 ∨ m = 8) (hcap : t.length ≤ cap) {C : Nat} (hC : C ≤ w.heap.size) (hr : RdB w C A t) (hl : t.length < m) (W : World) (hv : VB w W x) : Calls Try.prog 51 #[.slice A t.length cap, .int .i64 m] W (fun e w' => VB w w' x ∧ e = .returned (.tuple #[.int .u64 0, .slice none 0 0, .bool false])) := (cutNumber_any t A cap m hm hcap W (Nat.le_trans hC hv.2.size) (hr.below hv.2 hC)).mono fun e w' h => by
  obtain ⟨h1, ⟨h2, _⟩ | ⟨_, h2⟩⟩ := h
  · omega
  · exact ⟨hv.keep h1, h2⟩
theorem cut_text_yes {t s r : List UInt8} {A : Option Addr} {cap : Nat} {w : World} {x : Val} (hl : t.length ≤ 100000) (hcap : t.length ≤ cap) {C : Nat} (hC : C ≤ w.heap.size) (hr : RdB w C A t) (hc : cutT t = some (s, r)) (W : World) (hv : VB w W x) (_hs : W.heap.size = w.heap.size + 1) : Calls Try.prog 52 #[.slice A t.length cap] W (fun e w' => VB w w' x ∧ ∃ A' cap', e = .returned (.tuple #[.string ⟨s.toArray⟩, .slice A' r.length cap', .bool true]) ∧ RdB w C A' r ∧ r.length ≤ cap') := (cutText_any t A cap hl hcap W (Nat.le_trans hC hv.2.size) (hr.below hv.2 hC)).mono fun e w' h => by
  obtain ⟨h1, ⟨s', r', sb, A', n, cap', h2, rfl, rfl, rfl, h3, h4⟩ | ⟨h2, _⟩⟩ := h
  · rw [hc, Option.some.injEq, Prod.mk.injEq] at h2
    obtain ⟨rfl, rfl⟩ := h2
    exact ⟨hv.keep h1, A', cap', rfl, h3.back (hv.keep h1).2 hC, h4⟩
  · rw [hc] at h2; cases h2
theorem cut_text_no {t : List UInt8} {A : Option Addr} {cap : Nat} {w : World} {x : Val} (hl : t.length ≤ 100000) (hcap : t.length ≤ cap) {C : Nat} (hC : C ≤ w.heap.size) (hr : RdB w C A t) (hc : cutT t = none) (W : World) (hv : VB w W x) : Calls Try.prog 52 #[.slice A t.length cap] W (fun e w' => VB w w' x ∧ e = .returned (.tuple #[.string ⟨#[]⟩, .slice none 0 0, .bool false])) := (cutText_any t A cap hl hcap W (Nat.le_trans hC hv.2.size) (hr.below hv.2 hC)).mono fun e w' h => by
  obtain ⟨h1, ⟨s', r', sb, A', n, cap', h2, _⟩ | ⟨_, h2⟩⟩ := h
  · rw [hc] at h2; cases h2
  · exact ⟨hv.keep h1, h2⟩
/-- what stands behind the first byte -/
theorem rest_at {c : UInt8} {t : List UInt8} {ad : Addr} {cap : Nat} {w : World} {C : Nat} (hr : RdB w C (some ad) (c :: t)) (hcap : t.length + 1 ≤ cap) (h1 : ¬ cap = 1) : RdB w C (some (ad.add 1)) t := by
  have h := hr.drop (k := 1) (cap := cap) (by simpa using hcap)
  rw [if_neg h1] at h
  exact h
end Go.Proofs.Ytjnjolhokcmmhaa
