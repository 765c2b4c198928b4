/- Package table: Range. -/
import Derived.Test.YtkohppalfcalbaaGreatPU
import Derived.Test.YtkohppalfcalbaaGreatPD
import Derived.Shelf.RegionOpen
namespace Go.Proofs.YtkohppalfcalbaaGreat
open Go.RowKit

attribute [local go_sem] Oper.semAt_some
theorem OwnB.only_ {K : Nat → Prop} {w w' : World} {B : Nat} {v : Value} {l : List UInt8} (h : OwnB w B v l) (hO : Only K w w') (hK : ∀ k c e f, w.heap[k]? = some (.cells c e f) → B ≤ k → ¬ K k) : OwnB w' B v l := by
  refine ⟨⟨h.1.1, ?_⟩, h.2⟩
  rcases h.1.2 with h1 | ⟨g, cap, cur, h1, h2, h3, h4⟩
  · exact .inl h1
  · exact .inr ⟨g, cap, cur, h1, h2, (hO.block g (Array.getElem?_eq_some_iff.1 h3).1 (hK g _ _ _ h3 h2)).trans h3, h4⟩
theorem cells_of_own {w : World} {g o cap sz n : Nat} {vs : List Value} (h : OwnC w g o cap sz n vs) (hc : 0 < cap * sz) : ∃ c e f, w.heap[g]? = some (.cells c e f) := by
  obtain ⟨u0, hu0⟩ := Option.isSome_iff_exists.1 (h.free 0 hc).1
  unfold World.cell? at hu0
  split at hu0
  · rename_i c e f hg; exact ⟨c, e, f, hg⟩
  · cases hu0
/-- entries that are the call's own from block n0 on -/
def OwnEs (W : World) (n0 : Nat) (es : List Ent) : Prop := ∀ e ∈ es, OwnB W n0 (.slice e.kA e.k.length e.kc) e.k ∧ OwnB W n0 (.slice e.rA e.r.length e.rc) e.r
/-- a row's block is neither of two -/
def Sep (g bl : Nat) (v : Value) : Prop := ∀ b, v.ownBlock = some b → b ≠ g ∧ b ≠ bl
/-- between two rounds: the row l in the box bl has the entries es -/
structure RgR (W : World) (n0 bl bm : Nat) (most : Int) (G D : Nat → Prop) (q P : Nat) (ps : List Pg) (b1 b2 b3 : Nat) (F T : Option Addr) (f t : List UInt8) (fn fc tn tc : Nat) (g : Nat) (v : Value) (es : List Ent) : Prop where
  box : W.heap[bl]? = some (.cells #[v] 31 (0, 0))
  row : HeldC W bl g 2 v es.length (entV es)
  new : g = bl ∨ n0 + 5 ≤ g
  own : OwnEs W n0 es
  gc : ∃ c e fr, W.heap[g]? = some (.cells c e fr)
  sep : ∀ e ∈ es, Sep g bl (.slice e.kA e.k.length e.kc) ∧ Sep g bl (.slice e.rA e.r.length e.rc)
  m : W.heap[bm]? = some (.cells #[.int .i64 most] 3 (0, 0))
  b : Btw W G D q P ps b1 b2 b3 F T f t fn fc tn tc
/-- what abides a turn of a block that is no cells -/
theorem RgR.grow {W W' : World} {n0 bl bm S : Nat} {most : Int} {G D : Nat → Prop} {q P : Nat} {ps : List Pg} {b1 b2 b3 : Nat} {F T : Option Addr} {f t : List UInt8} {fn fc tn tc g : Nat} {v : Value} {es : List Ent} {row : Option Nat} (h : RgR W n0 bl bm most G D q P ps b1 b2 b3 F T f t fn fc tn tc g v es) (hg : W.grownBy W' row) (hr : ∀ r, row = some r → S ≤ r ∧ ∃ o : Obj, W.heap[r]? = some o ∧ o.isCells = false)
    (hGS : ∀ j, G j → j < S) (hDS : ∀ j, D j → j < S) (hFS : f ≠ [] → ∀ ad, F = some ad → ad.block < S) (hTS : t ≠ [] → ∀ ad, T = some ad → ad.block < S) : RgR W' n0 bl bm most G D q P ps b1 b2 b3 F T f t fn fc tn tc g v es := by
  have hO := Only.of_grown hg
  have hnc : ∀ k c e fr, W.heap[k]? = some (.cells c e fr) → ¬ (some k = row) := fun k c e fr hk e2 => by
    obtain ⟨_, o, ho, hc⟩ := hr k e2.symm
    rw [hk] at ho
    injection ho with ho
    subst ho
    cases hc
  have hlt : ∀ k, k < S → ¬ (some k = row) := fun k hk e2 => by have := (hr k e2.symm).1; omega
  have hx := h.b
  obtain ⟨c, e, fr, hg2⟩ := h.gc
  exact ⟨(hO.block bl (Array.getElem?_eq_some_iff.1 h.box).1 (hnc _ _ _ _ h.box)).trans h.box, h.row.only hO (fun _ => hnc _ _ _ _ hg2), h.new, fun e he => ⟨(h.own e he).1.only_ hO (fun k c e f hk _ => hnc k c e f hk), (h.own e he).2.only_ hO (fun k c e f hk _ => hnc k c e f hk)⟩, ⟨c, e, fr, (hO.block g (Array.getElem?_eq_some_iff.1 hg2).1 (hnc _ _ _ _ hg2)).trans hg2⟩, h.sep, (hO.block bm (Array.getElem?_eq_some_iff.1 h.m).1 (hnc _ _ _ _ h.m)).trans h.m, hx.only hO (fun j hj => hlt j (hGS j hj)) (fun j hj => hlt j (hDS j hj)) (hnc _ _ _ _ hx.x1) (hnc _ _ _ _ hx.x2) (hnc _ _ _ _ hx.x3) (fun hn ad ha => hlt _ (hFS hn ad ha)) (fun hn ad ha => hlt _ (hTS hn ad ha))⟩
theorem OwnB.kept {K : Nat → Prop} {w w' : World} {B : Nat} {v : Value} {l : List UInt8} (h : OwnB w B v l) (hO : Only K w w') (hK : ∀ b, v.ownBlock = some b → ¬ K b) : OwnB w' B v l := by
  refine ⟨⟨h.1.1, ?_⟩, h.2⟩
  rcases h.1.2 with h1 | ⟨g, cap, cur, h1, h2, h3, h4⟩
  · exact .inl h1
  · exact .inr ⟨g, cap, cur, h1, h2, (hO.block g (Array.getElem?_eq_some_iff.1 h3).1 (hK g (by rw [h1]; rfl))).trans h3, h4⟩
theorem OwnB.lt_ {w : World} {B : Nat} {v : Value} {l : List UInt8} (h : OwnB w B v l) : ∀ k, v.ownBlock = some k → k < w.heap.size := by
  intro k e
  rcases h.1.2 with ⟨rfl, _⟩ | ⟨g, c, cur, rfl, _, h3, _⟩
  · cases e
  · have : g = k := by simpa [Value.ownBlock] using e
    rw [← this]
    exact (Array.getElem?_eq_some_iff.1 h3).1
theorem keepsFrom_only {K : Nat → Prop} {W W' : World} (B : Nat) (hO : Only K W W') (hK : ∀ k, K k → ∃ c e f, W.heap[k]? = some (.cells c e f)) : KeepsFrom B W W' := ⟨hO.size, fun k o _ hk hc => (hO.block k (Array.getElem?_eq_some_iff.1 hk).1 (fun e => by
  obtain ⟨c, e2, f, h⟩ := hK k e
  rw [hk] at h
  injection h with h
  subst h
  cases hc)).trans hk⟩
/-- the invariant: what has come is in the row -/
def RgI {ps : List Pg} (w0 : World) (bl bm : Nat) (most : Int) (G D : Nat → Prop) (q P : Nat) (b1 b2 b3 : Nat) (F T : Option Addr) (f t : List UInt8) (fn fc tn tc : Nat) (pre : List {x : Ent // x ∈ flat ps}) (W : World) : Prop :=
  ∃ g v es, RgR W w0.heap.size bl bm most G D q P ps b1 b2 b3 F T f t fn fc tn tc g v es ∧ kv es = kv (pre.map (·.1)) ∧ Below w0.heap.size w0 W ∧ w0.heap.size + 5 ≤ W.heap.size ∧ pre.length ≤ most.toNat
/-- .. where the loop was left: the last one was not taken -/
def RgX {ps : List Pg} (w0 : World) (bl bm : Nat) (most : Int) (G D : Nat → Prop) (q P : Nat) (b1 b2 b3 : Nat) (F T : Option Addr) (f t : List UInt8) (fn fc tn tc : Nat) (pre : List {x : Ent // x ∈ flat ps}) (W : World) : Prop :=
  ∃ pre0 x, pre = pre0 ++ [x] ∧ RgI w0 bl bm most G D q P b1 b2 b3 F T f t fn fc tn tc pre0 W ∧ ¬ (pre0.length : Int) < most
theorem RgI.own {ps : List Pg} (w0 : World) (bl bm S : Nat) (most : Int) (G D : Nat → Prop) (q P : Nat) (b1 b2 b3 : Nat) (F T : Option Addr) (f t : List UInt8) (fn fc tn tc : Nat) (hS : w0.heap.size ≤ S) (hGS : ∀ j, G j → j < S) (hDS : ∀ j, D j → j < S) (hFS : f ≠ [] → ∀ ad, F = some ad → ad.block < S) (hTS : t ≠ [] → ∀ ad, T = some ad → ad.block < S) :
    OwnFrom S (RgI (ps := ps) w0 bl bm most G D q P b1 b2 b3 F T f t fn fc tn tc) := fun pre W W' row h hg hr => by
  obtain ⟨g, v, es, h1, h2, h3, h4, h5⟩ := h
  exact ⟨g, v, es, h1.grow hg hr hGS hDS hFS hTS, h2, h3.trans ((Only.of_grown hg).below h3.size (fun j e => by have := (hr j e.symm).1; omega)), Nat.le_trans h4 (Only.of_grown hg).size, h5⟩
theorem RgX.own {ps : List Pg} (w0 : World) (bl bm S : Nat) (most : Int) (G D : Nat → Prop) (q P : Nat) (b1 b2 b3 : Nat) (F T : Option Addr) (f t : List UInt8) (fn fc tn tc : Nat) (hS : w0.heap.size ≤ S) (hGS : ∀ j, G j → j < S) (hDS : ∀ j, D j → j < S) (hFS : f ≠ [] → ∀ ad, F = some ad → ad.block < S) (hTS : t ≠ [] → ∀ ad, T = some ad → ad.block < S) :
    OwnFrom S (RgX (ps := ps) w0 bl bm most G D q P b1 b2 b3 F T f t fn fc tn tc) := fun pre W W' row h hg hr => by
  obtain ⟨pre0, x, h1, h2, h3⟩ := h
  exact ⟨pre0, x, h1, RgI.own w0 bl bm S most G D q P b1 b2 b3 F T f t fn fc tn tc hS hGS hDS hFS hTS pre0 W W' row h2 hg hr, h3⟩
attribute [-go_sem] Builtin.append_
end Go.Proofs.YtkohppalfcalbaaGreat
