/- Appends of two types; bytes.Clone; a copy of an entry. -/
import Derived.Test.YtkohppalfcalbaaGreatPC
namespace Go.Proofs.YtkohppalfcalbaaGreat
open Go.RowKit

theorem OwnC.mid_ {w : World} {g o cap sz n k : Nat} {a b c ys : List Value} (h : OwnC w g o cap sz n (a ++ (b ++ c))) (hb : ys.length = b.length) (ha : a.length = k) : OwnC (w.setCells g (o + k) ys) g o cap sz n (a ++ (ys ++ c)) := by
  subst ha
  exact h.mid hb
theorem cloneA_any (l : List UInt8) (A : Option Addr) (n cap : Nat) (hn : l.length = n) (w : World) (hl : l.length ≤ 100000) (hr : RdB w w.heap.size A l) : Calls Tryz.prog 71 #[.slice A n cap] w (CloneTo w l) := by
  rcases A with _ | a
  · have : l = [] := by
      rcases l with _ | ⟨y, t⟩
      · rfl
      · obtain ⟨_, e, _⟩ := hr (by simp); cases e
    subst this
    exact clone_nil n cap w
  · exact clone_any l a n cap hn w hl hr
/-- what a copy of an entry is -/
def CopT (w : World) (e : Ent) (en : Ending) (w' : World) : Prop := ∃ e', en = .returned (Ent.v e') ∧ e'.k = e.k ∧ e'.r = e.r ∧ OwnB w' w.heap.size (.slice e'.kA e'.k.length e'.kc) e'.k ∧ OwnB w' w.heap.size (.slice e'.rA e'.r.length e'.rc) e'.r ∧ Below w.heap.size w w'
theorem OwnB.new {w : World} {B : Nat} {v : Value} {l : List UInt8} (h : OwnB w B v l) : ∃ A cap, v = .slice A l.length cap := by
  obtain ⟨_, A, cap, h, _⟩ := h
  exact ⟨A, cap, h⟩
/-- the two boxes of a copy: the entry's, the answer's -/
structure CpB (w W : World) (kA rA : Option Addr) (k r : List UInt8) (kc rc : Nat) : Prop where
  bel : Below w.heap.size w W
  size : w.heap.size + 2 ≤ W.heap.size
  a : W.heap[w.heap.size]? = some (.cells #[.slice kA k.length kc, .slice rA r.length rc] 92 (0, 0))
  b : W.heap[w.heap.size + 1]? = some (.cells #[.slice none 0 0, .slice none 0 0] 92 (0, 0))
theorem CpB.next {w W W2 : World} {kA rA : Option Addr} {k r : List UInt8} {kc rc : Nat} (h : CpB w W kA rA k r kc rc) (hb : Below W.heap.size W W2) : CpB w W2 kA rA k r kc rc :=
  ⟨h.bel.trans (hb.mono h.bel.size), Nat.le_trans h.size hb.size, (hb.block _ (by have := h.size; omega)).trans h.a, (hb.block _ (by have := h.size; omega)).trans h.b⟩
theorem CpB.new (w : World) (kA rA : Option Addr) (k r : List UInt8) (kc rc : Nat) : CpB w ((w.alloc (.cells #[.slice kA k.length kc, .slice rA r.length rc] 92)).alloc (.cells #[.slice none 0 0, .slice none 0 0] 92)) kA rA k r kc rc := by
  have e1 : (w.alloc (.cells #[.slice kA k.length kc, .slice rA r.length rc] 92)).heap.size = w.heap.size + 1 := by simp
  refine ⟨(alloc_below w _).trans ((alloc_below _ _).mono (by simp)), by simp, ?_, ?_⟩
  · rw [Below.heap_alloc _ _ _ (by simp)]
    exact heap_alloc_new w _
  · have h := heap_alloc_new (w.alloc (.cells #[.slice kA k.length kc, .slice rA r.length rc] 92)) (.cells #[.slice none 0 0, .slice none 0 0] 92)
    rw [e1] at h
    exact h
theorem CpB.cells {w W : World} {kA rA : Option Addr} {k r : List UInt8} {kc rc : Nat} (h : CpB w W kA rA k r kc rc) : ∀ V : World, V.heap = W.heap → V.cell? ⟨w.heap.size, 0, none⟩ = some (.slice kA k.length kc) ∧ V.cell? ⟨w.heap.size, 1, none⟩ = some (.slice rA r.length rc) := fun V e => box2 (by rw [e]; exact h.a)
theorem CpB.ends {w W : World} {kA rA kA' rA' : Option Addr} {k r : List UInt8} {kc rc kc' rc' kn rn : Nat} (h : CpB w W kA rA k r kc rc) (hkn : kn = k.length) (hrn : rn = r.length) (hk : OwnB W w.heap.size (.slice kA' kn kc') k) (hr : OwnB W w.heap.size (.slice rA' rn rc') r)
    (hk2 : ∀ g, (Value.slice kA' kn kc').ownBlock = some g → g ≠ w.heap.size + 1) (hr2 : ∀ g, (Value.slice rA' rn rc').ownBlock = some g → g ≠ w.heap.size + 1) :
    CopT w ⟨kA, k, kc, rA, r, rc⟩ (.returned (.agg #[.slice kA' kn kc', .slice rA' rn rc'])) ((W.setCell ⟨w.heap.size + 1, 0, none⟩ (.slice kA' kn kc')).setCell ⟨w.heap.size + 1, 1, none⟩ (.slice rA' rn rc')) := by
  subst hkn hrn
  have hO : Only (· = w.heap.size + 1) W ((W.setCell ⟨w.heap.size + 1, 0, none⟩ (.slice kA' k.length kc')).setCell ⟨w.heap.size + 1, 1, none⟩ (.slice rA' r.length rc')) := (Only.set W _ 0 _).trans (Only.set _ _ 1 _) (fun _ _ e => e)
  have hg : ∀ {v : Value} {l : List UInt8}, OwnB W w.heap.size v l → (∀ g, v.ownBlock = some g → g ≠ w.heap.size + 1) → OwnB ((W.setCell ⟨w.heap.size + 1, 0, none⟩ (.slice kA' k.length kc')).setCell ⟨w.heap.size + 1, 1, none⟩ (.slice rA' r.length rc')) w.heap.size v l := fun {v l} h hne => by
    refine ⟨⟨h.1.1, ?_⟩, h.2⟩
    rcases h.1.2 with h1 | ⟨g, cap, cur, h1, h2, h3, h4⟩
    · exact .inl h1
    · exact .inr ⟨g, cap, cur, h1, h2, (hO.block g (Array.getElem?_eq_some_iff.1 h3).1 (hne g (by rw [h1]; rfl))).trans h3, h4⟩
  exact ⟨⟨kA', k, kc', rA', r, rc'⟩, rfl, rfl, rfl, hg hk hk2, hg hr hr2, h.bel.trans (hO.below h.bel.size (fun j e => by omega))⟩
theorem frozen_of {w : World} {b : Nat} {cs : Array Value} {t : TypeId} (h : w.heap[b]? = some (.cells cs t (0, 0))) (i : Nat) : w.frozen? ⟨b, i, none⟩ = false := by
  unfold World.frozen?
  rw [show (⟨b, i, none⟩ : Addr).block = b from rfl, h]
  simp
/-- bytes of the call's own that were made behind a world -/
structure CpO (W0 W : World) (B : Nat) (A : Option Addr) (n c : Nat) (l : List UInt8) : Prop where
  own : OwnB W B (.slice A n c) l
  new : ∀ g, (Value.slice A n c).ownBlock = some g → W0.heap.size ≤ g
theorem CpO.next {W0 W W2 : World} {B n c : Nat} {A : Option Addr} {l : List UInt8} (h : CpO W0 W B A n c l) (hb : Below W.heap.size W W2) : CpO W0 W2 B A n c l := ⟨h.own.below hb, h.new⟩
theorem OwnB.down {w : World} {B C : Nat} {v : Value} {l : List UInt8} (h : OwnB w B v l) (hC : C ≤ B) : OwnB w C v l := by
  refine ⟨⟨h.1.1, ?_⟩, h.2⟩
  rcases h.1.2 with h1 | ⟨g, cap, cur, h1, h2, h3⟩
  · exact .inl h1
  · exact .inr ⟨g, cap, cur, h1, Nat.le_trans hC h2, h3⟩
theorem CpO.of {W W2 : World} {B n c : Nat} {A : Option Addr} {l : List UInt8} (h : OwnB W2 W.heap.size (.slice A n c) l) (hB : B ≤ W.heap.size) : CpO W W2 B A n c l := ⟨h.down hB, h.ge⟩
end Go.Proofs.YtkohppalfcalbaaGreat
