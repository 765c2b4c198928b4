/- Package table: Range. -/
import Derived.Test.YtkohppalfcalbaaGreatPU
import Derived.Test.YtkohppalfcalbaaGreatPD
import Derived.Shelf.RegionOpen
namespace Go.Proofs.YtkohppalfcalbaaGreat
open Go.RowKit

attribute [local go_sem] Oper.semAt_some
theorem OwnB.only_ {K : Nat → Prop} {w w' : World} {B : Nat} {v : Value} {l : List UInt8} (h : OwnB w B v l) (hO : Only K w w') (hK : ∀ k c e f, w.heap[k]? = some (.cells c e f) → B ≤ k → ¬ K k) : OwnB w' B v l := by
  refine ⟨⟨h.1.1, ?_⟩, h.2⟩
  rcases h.1.2 with h1 | ⟨g, cap, cur, h1, h2, h3, h4⟩
  · exact .inl h1
  · exact .inr ⟨g, cap, cur, h1, h2, (hO.block g (Array.getElem?_eq_some_iff.1 h3).1 (hK g _ _ _ h3 h2)).trans h3, h4⟩
theorem cells_of_own {w : World} {g o cap sz n : Nat} {vs : List Value} (h : OwnC w g o cap sz n vs) (hc : 0 < cap * sz) : ∃ c e f, w.heap[g]? = some (.cells c e f) := by
  obtain ⟨u0, hu0⟩ := Option.isSome_iff_exists.1 (h.free 0 hc).1
  unfold World.cell? at hu0
  split at hu0
  · rename_i c e f hg; exact ⟨c, e, f, hg⟩
  · cases hu0
/-- entries that are the call's own from block n0 on -/
def OwnEs (W : World) (n0 : Nat) (es : List Ent) : Prop := ∀ e ∈ es, OwnB W n0 (.slice e.kA e.k.length e.kc) e.k ∧ OwnB W n0 (.slice e.rA e.r.length e.rc) e.r
/-- a row's block is neither of two -/
def Sep (g bl : Nat) (v : Value) : Prop := ∀ b, v.ownBlock = some b → b ≠ g ∧ b ≠ bl
/-- between two rounds: the row l in the box bl has the entries es -/
structure RgR (W : World) (n0 bl bm : Nat) (most : Int) (G D : Nat → Prop) (q P : Nat) (ps : List Pg) (b1 b2 b3 : Nat) (F T : Option Addr) (f t : List UInt8) (fn fc tn tc : Nat) (g : Nat) (v : Value) (es : List Ent) : Prop where
  box : W.heap[bl]? = some (.cells #[v] 31 (0, 0))
  row : HeldC W bl g 2 v es.length (entV es)
  new : g = bl ∨ n0 + 5 ≤ g
  own : OwnEs W n0 es
  gc : ∃ c e fr, W.heap[g]? = some (.cells c e fr)
  sep : ∀ e ∈ es, Sep g bl (.slice e.kA e.k.length e.kc) ∧ Sep g bl (.slice e.rA e.r.length e.rc)
  m : W.heap[bm]? = some (.cells #[.int .i64 most] 3 (0, 0))
  b : Btw W G D q P ps b1 b2 b3 F T f t fn fc tn tc
/-- what abides a turn of a block that is no cells -/
theorem RgR.grow {W W' : World} {n0 bl bm S : Nat} {most : Int} {G D : Nat → Prop} {q P : Nat} {ps : List Pg} {b1 b2 b3 : Nat} {F T : Option Addr} {f t : List UInt8} {fn fc tn tc g : Nat} {v : Value} {es : List Ent} {row : Option Nat} (h : RgR W n0 bl bm most G D q P ps b1 b2 b3 F T f t fn fc tn tc g v es) (hg : W.grownBy W' row) (hr : ∀ r, row = some r → S ≤ r ∧ ∃ o : Obj, W.heap[r]? = some o ∧ o.isCells = false)
    (hGS : ∀ j, G j → j < S) (hDS : ∀ j, D j → j < S) (hFS : f ≠ [] → ∀ ad, F = some ad → ad.block < S) (hTS : t ≠ [] → ∀ ad, T = some ad → ad.block < S) : RgR W' n0 bl bm most G D q P ps b1 b2 b3 F T f t fn fc tn tc g v es := by
  have hO := Only.of_grown hg
  have hnc : ∀ k c e fr, W.heap[k]? = some (.cells c e fr) → ¬ (some k = row) := fun k c e fr hk e2 => by
    obtain ⟨_, o, ho, hc⟩ := hr k e2.symm
    rw [hk] at ho
    injection ho with ho
    subst ho
    cases hc
  have hlt : ∀ k, k < S → ¬ (some k = row) := fun k hk e2 => by have := (hr k e2.symm).1; omega
  have hx := h.b
  obtain ⟨c, e, fr, hg2⟩ := h.gc
  exact ⟨(hO.block bl (Array.getElem?_eq_some_iff.1 h.box).1 (hnc _ _ _ _ h.box)).trans h.box, h.row.only hO (fun _ => hnc _ _ _ _ hg2), h.new, fun e he => ⟨(h.own e he).1.only_ hO (fun k c e f hk _ => hnc k c e f hk), (h.own e he).2.only_ hO (fun k c e f hk _ => hnc k c e f hk)⟩, ⟨c, e, fr, (hO.block g (Array.getElem?_eq_some_iff.1 hg2).1 (hnc _ _ _ _ hg2)).trans hg2⟩, h.sep, (hO.block bm (Array.getElem?_eq_some_iff.1 h.m).1 (hnc _ _ _ _ h.m)).trans h.m, hx.only hO (fun j hj => hlt j (hGS j hj)) (fun j hj => hlt j (hDS j hj)) (hnc _ _ _ _ hx.x1) (hnc _ _ _ _ hx.x2) (hnc _ _ _ _ hx.x3) (fun hn ad ha => hlt _ (hFS hn ad ha)) (fun hn ad ha => hlt _ (hTS hn ad ha))⟩
theorem OwnB.kept {K : Nat → Prop} {w w' : World} {B : Nat} {v : Value} {l : List UInt8} (h : OwnB w B v l) (hO : Only K w w') (hK : ∀ b, v.ownBlock = some b → ¬ K b) : OwnB w' B v l := by
  refine ⟨⟨h.1.1, ?_⟩, h.2⟩
  rcases h.1.2 with h1 | ⟨g, cap, cur, h1, h2, h3, h4⟩
  · exact .inl h1
  · exact .inr ⟨g, cap, cur, h1, h2, (hO.block g (Array.getElem?_eq_some_iff.1 h3).1 (hK g (by rw [h1]; rfl))).trans h3, h4⟩
theorem OwnB.lt_ {w : World} {B : Nat} {v : Value} {l : List UInt8} (h : OwnB w B v l) : ∀ k, v.ownBlock = some k → k < w.heap.size := by
  intro k e
  rcases h.1.2 with ⟨rfl, _⟩ | ⟨g, c, cur, rfl, _, h3, _⟩
  · cases e
  · have : g = k := by simpa [Value.ownBlock] using e
    rw [← this]
    exact (Array.getElem?_eq_some_iff.1 h3).1
theorem keepsFrom_only {K : Nat → Prop} {W W' : World} (B : Nat) (hO : Only K W W') (hK : ∀ k, K k → ∃ c e f, W.heap[k]? = some (.cells c e f)) : KeepsFrom B W W' := ⟨hO.size, fun k o _ hk hc => (hO.block k (Array.getElem?_eq_some_iff.1 hk).1 (fun e => by
  obtain ⟨c, e2, f, h⟩ := hK k e
  rw [hk] at h
  injection h with h
  subst h
  cases hc)).trans hk⟩
/-- a round has taken an entry's copy -/
theorem RgR.took {W w3 w4 w5 : World} {n0 : Nat} {most : Int} {G D : Nat → Prop} {q P : Nat} {ps : List Pg} {F T : Option Addr} {f t : List UInt8} {fn fc tn tc g g' : Nat} {v v' : Value} {es : List Ent} {e' : Ent} (h : RgR W n0 (n0 + 1) n0 most G D q P ps (n0 + 2) (n0 + 2 + 1) (n0 + 2 + 1 + 1) F T f t fn fc tn tc g v es)
    (hS : n0 + 5 ≤ W.heap.size) (hGS : ∀ j, G j → j < n0) (hDS : ∀ j, D j → j < n0) (hFS : f ≠ [] → ∀ ad, F = some ad → ad.block < n0) (hTS : t ≠ [] → ∀ ad, T = some ad → ad.block < n0)
    (hb3 : Below W.heap.size W w3) (hk : OwnB w3 W.heap.size (.slice e'.kA e'.k.length e'.kc) e'.k) (hr : OwnB w3 W.heap.size (.slice e'.rA e'.r.length e'.rc) e'.r) (hb4 : Below w3.heap.size w3 w4)
    (hrow : HeldC w5 (n0 + 1) g' 2 v' (es.length + 1) (entV es ++ [.slice e'.kA e'.k.length e'.kc, .slice e'.rA e'.r.length e'.rc])) (hO : Only (fun k => k = g ∧ k ≠ n0 + 1) w4 w5) (hg : g' = g ∨ w4.heap.size ≤ g') :
    RgR (w5.setCell ⟨n0 + 1, 0, none⟩ v') n0 (n0 + 1) n0 most G D q P ps (n0 + 2) (n0 + 2 + 1) (n0 + 2 + 1 + 1) F T f t fn fc tn tc g' v' (es ++ [e']) ∧ Below n0 W (w5.setCell ⟨n0 + 1, 0, none⟩ v') ∧ KpR (n0 + 5) (n0 + 1) W (w5.setCell ⟨n0 + 1, 0, none⟩ v') ∧ (∀ B, KeepsFrom B W (w5.setCell ⟨n0 + 1, 0, none⟩ v')) := by
  have hgl : g < W.heap.size := by
    obtain ⟨c, e, fr, h1⟩ := h.gc
    exact (Array.getElem?_eq_some_iff.1 h1).1
  have hnew := h.new
  have h3 := hb3.size
  have h4 := hb4.size
  have h5 := hO.size
  have hO4 : Only (fun k => k = g ∧ k ≠ n0 + 1) w3 w5 := (Only.of_below (K := fun k => k = g ∧ k ≠ n0 + 1) hb4).trans hO (fun _ _ e => e)
  have hO5 : Only (fun k => k = g ∧ k ≠ n0 + 1) W w5 := (Only.of_below (K := fun k => k = g ∧ k ≠ n0 + 1) hb3).trans hO4 (fun _ _ e => e)
  have hSt := Only.set w5 (n0 + 1) 0 v'
  have hO6 : Only (fun k => k = n0 + 1 ∨ k = g) W (w5.setCell ⟨n0 + 1, 0, none⟩ v') := (hO5.more (fun j _ e => .inr e.1)).trans hSt (fun j _ e => .inl e)
  have hO63 : Only (fun k => k = n0 + 1 ∨ k = g) w3 (w5.setCell ⟨n0 + 1, 0, none⟩ v') := (hO4.more (fun j _ e => .inr e.1)).trans hSt (fun j _ e => .inl e)
  have hnl : g' ≠ n0 + 1 := by
    rcases hrow with ⟨_, h0, _⟩ | ⟨hne, _⟩
    · omega
    · exact hne
  have hrow6 := hrow.only hSt (fun _ => hnl)
  have hbox5 : w5.heap[n0 + 1]? = some (.cells #[v] 31 (0, 0)) := (hO5.block _ (by omega) (fun e => e.2 rfl)).trans h.box
  refine ⟨⟨by simp [World.setCell, Array.getElem?_modify, hbox5], ?_, by omega, ?_, ?_, ?_, (hO6.block _ (by omega) (fun e => by omega)).trans h.m, h.b.only hO6 (fun j hj e => by have := hGS j hj; omega) (fun j hj e => by have := hDS j hj; omega) (fun e => by omega) (fun e => by omega) (fun e => by omega) (fun hn ad ha e => by have := hFS hn ad ha; omega) (fun hn ad ha e => by have := hTS hn ad ha; omega)⟩, hO6.below (by omega) (fun j e => by omega), hO6.more (fun j _ e => by omega), fun B => keepsFrom_only B hO6 (fun k e => ?_)⟩
  · rw [entV_app, List.length_append, List.length_singleton]
    exact hrow6
  · intro e he
    rcases List.mem_append.1 he with he | he
    · have h7 := h.own e he
      have h8 := h.sep e he
      exact ⟨h7.1.kept hO6 (fun b hb e2 => by have := h8.1 b hb; omega), h7.2.kept hO6 (fun b hb e2 => by have := h8.2 b hb; omega)⟩
    · rcases List.mem_singleton.1 he with rfl
      exact ⟨(hk.kept hO63 (fun b hb e2 => by have := hk.ge b hb; omega)).down (by omega), (hr.kept hO63 (fun b hb e2 => by have := hr.ge b hb; omega)).down (by omega)⟩
  · rcases hrow6 with ⟨_, h0, _⟩ | ⟨_, o, cap, _, ho⟩
    · omega
    · have := ho.room
      exact cells_of_own ho (by omega)
  · intro e he
    rcases List.mem_append.1 he with he | he
    · have h7 := h.own e he
      have h8 := h.sep e he
      exact ⟨fun b hb => by have h9 := h8.1 b hb; have h10 := h7.1.lt_ b hb; omega, fun b hb => by have h9 := h8.2 b hb; have h10 := h7.2.lt_ b hb; omega⟩
    · rcases List.mem_singleton.1 he with rfl
      exact ⟨fun b hb => by have h9 := hk.ge b hb; have h10 := hk.lt_ b hb; omega, fun b hb => by have h9 := hr.ge b hb; have h10 := hr.lt_ b hb; omega⟩
  · rcases e with rfl | rfl
    · exact ⟨_, _, _, h.box⟩
    · exact h.gc
/-- the invariant: what has come is in the row -/
def RgI {ps : List Pg} (w0 : World) (bl bm : Nat) (most : Int) (G D : Nat → Prop) (q P : Nat) (b1 b2 b3 : Nat) (F T : Option Addr) (f t : List UInt8) (fn fc tn tc : Nat) (pre : List {x : Ent // x ∈ flat ps}) (W : World) : Prop :=
  ∃ g v es, RgR W w0.heap.size bl bm most G D q P ps b1 b2 b3 F T f t fn fc tn tc g v es ∧ kv es = kv (pre.map (·.1)) ∧ Below w0.heap.size w0 W ∧ w0.heap.size + 5 ≤ W.heap.size ∧ pre.length ≤ most.toNat
/-- .. where the loop was left: the last one was not taken -/
def RgX {ps : List Pg} (w0 : World) (bl bm : Nat) (most : Int) (G D : Nat → Prop) (q P : Nat) (b1 b2 b3 : Nat) (F T : Option Addr) (f t : List UInt8) (fn fc tn tc : Nat) (pre : List {x : Ent // x ∈ flat ps}) (W : World) : Prop :=
  ∃ pre0 x, pre = pre0 ++ [x] ∧ RgI w0 bl bm most G D q P b1 b2 b3 F T f t fn fc tn tc pre0 W ∧ ¬ (pre0.length : Int) < most
theorem RgI.own {ps : List Pg} (w0 : World) (bl bm S : Nat) (most : Int) (G D : Nat → Prop) (q P : Nat) (b1 b2 b3 : Nat) (F T : Option Addr) (f t : List UInt8) (fn fc tn tc : Nat) (hS : w0.heap.size ≤ S) (hGS : ∀ j, G j → j < S) (hDS : ∀ j, D j → j < S) (hFS : f ≠ [] → ∀ ad, F = some ad → ad.block < S) (hTS : t ≠ [] → ∀ ad, T = some ad → ad.block < S) :
    OwnFrom S (RgI (ps := ps) w0 bl bm most G D q P b1 b2 b3 F T f t fn fc tn tc) := fun pre W W' row h hg hr => by
  obtain ⟨g, v, es, h1, h2, h3, h4, h5⟩ := h
  exact ⟨g, v, es, h1.grow hg hr hGS hDS hFS hTS, h2, h3.trans ((Only.of_grown hg).below h3.size (fun j e => by have := (hr j e.symm).1; omega)), Nat.le_trans h4 (Only.of_grown hg).size, h5⟩
theorem RgX.own {ps : List Pg} (w0 : World) (bl bm S : Nat) (most : Int) (G D : Nat → Prop) (q P : Nat) (b1 b2 b3 : Nat) (F T : Option Addr) (f t : List UInt8) (fn fc tn tc : Nat) (hS : w0.heap.size ≤ S) (hGS : ∀ j, G j → j < S) (hDS : ∀ j, D j → j < S) (hFS : f ≠ [] → ∀ ad, F = some ad → ad.block < S) (hTS : t ≠ [] → ∀ ad, T = some ad → ad.block < S) :
    OwnFrom S (RgX (ps := ps) w0 bl bm most G D q P b1 b2 b3 F T f t fn fc tn tc) := fun pre W W' row h hg hr => by
  obtain ⟨pre0, x, h1, h2, h3⟩ := h
  exact ⟨pre0, x, h1, RgI.own w0 bl bm S most G D q P b1 b2 b3 F T f t fn fc tn tc hS hGS hDS hFS hTS pre0 W W' row h2 hg hr, h3⟩
/-- what Range answers -/
def RgT (w : World) (L : List (List UInt8 × List UInt8)) (en : Ending) (w' : World) : Prop := ∃ b g v es, en = .returned v ∧ HeldC w' b g 2 v es.length (entV es) ∧ (g = b ∨ w.heap.size ≤ g) ∧ w.heap.size ≤ b ∧ OwnEs w' w.heap.size es ∧ kv es = L ∧ Below w.heap.size w w'
attribute [-go_sem] Builtin.append_
set_option maxRecDepth 100000 in
set_option maxHeartbeats 8000000 in
theorem range_any {w : World} {G D : Nat → Prop} {q P : Nat} {ps : List Pg} (h : Tbl w G D q P ps) (F T : Option Addr) (f t : List UInt8) (fn fc tn tc : Nat) (most : Int) (hfn : f.length = fn) (htn : t.length = tn) (hf : RdB w w.heap.size F f) (ht : RdB w w.heap.size T t) :
    Calls Tryz.prog 43 #[.pointer (some ⟨q, 0, none⟩), .slice F fn fc, .slice T tn tc, .int .i64 most] w (RgT w (kv ((rangeL f t (flat ps)).take most.toNat))) := by
  have hnil : ∀ (w : World) (a : Option Addr), (binOp .eql 88 (.pointer a) (.pointer none)).run Tryz.prog w = .ok (.bool a.isNone) w := fun w a => by cases a <;> rfl
  obtain ⟨w1, hw1⟩ : ∃ w1, w1 = (w.alloc (.cells #[.int .i64 most] 3)).alloc (.cells #[.slice none 0 0] 31) := ⟨_, rfl⟩
  have hs1 : w1.heap.size = w.heap.size + 2 := by rw [hw1]; simp
  have hb1 : Below w.heap.size w w1 := by rw [hw1]; exact (alloc_below w _).trans ((alloc_below _ _).mono (by simp))
  have hm1 : w1.heap[w.heap.size]? = some (.cells #[.int .i64 most] 3 (0, 0)) := by rw [hw1, Below.heap_alloc _ _ _ (by simp)]; exact heap_alloc_new w _
  have hl1 : w1.heap[w.heap.size + 1]? = some (.cells #[.slice none 0 0] 31 (0, 0)) := by
    rw [hw1]
    have h5 := heap_alloc_new (w.alloc (.cells #[.int .i64 most] 3)) (.cells #[.slice none 0 0] 31)
    rw [show (w.alloc (.cells #[.int .i64 most] 3)).heap.size = w.heap.size + 1 by simp] at h5
    exact h5
  have HBT := Lib.hid (betweenT_any w1 q F T fn fc tn tc)
  have HW1 := Lib.hid hw1
  clear hw1
  refine (callsIn_wide (n := 3)).1 ?_
  refine callsIn_of_wp_marks Tryz.func43 rfl trivial ?_ rfl
  simp only [Tryz.ntmps43, List.size_toArray, List.length_cons, List.length_nil, Nat.reduceAdd, Nat.reduceSub, Array.replicate_succ, Array.replicate_zero, List.push_toArray, List.append_toArray, List.nil_append, List.cons_append]
  gi_wp2_with (refine ⟨trivial, ?_⟩; gi_at_call 87; rw [← HW1.out]; refine (callsIn_wide.2 HBT.out).mono ?_; rintro e w2 ⟨rfl, hx1, hx2, hx3, hb2, hsz⟩
               have HX1 := Lib.hid hx1
               have HX2 := Lib.hid hx2
               have HX3 := Lib.hid hx3
               have HB2 := Lib.hid hb2
               have HSZ := Lib.hid hsz
               clear hx1 hx2 hx3 hb2 hsz)
  have hs2 : w2.heap.size = w.heap.size + 5 := by have := HSZ.out; omega
  have hbw2 : Below w.heap.size w w2 := hb1.trans (HB2.out.mono hb1.size)
  have hGS : ∀ j, G j → j < w.heap.size := h.t.glt
  have hDS : ∀ j, D j → j < w.heap.size := h.t.dlt
  have hFS : f ≠ [] → ∀ ad, F = some ad → ad.block < w.heap.size := fun hn ad ha => by
    obtain ⟨ad2, e1, e2, _⟩ := hf hn
    rw [ha] at e1
    injection e1 with e1
    rw [e1]; exact e2
  have hTS : t ≠ [] → ∀ ad, T = some ad → ad.block < w.heap.size := fun hn ad ha => by
    obtain ⟨ad2, e1, e2, _⟩ := ht hn
    rw [ha] at e1
    injection e1 with e1
    rw [e1]; exact e2
  have hBtw : Btw w2 G D q P ps (w.heap.size + 2) (w.heap.size + 2 + 1) (w.heap.size + 2 + 1 + 1) F T f t fn fc tn tc := by rw [← hs1]; exact ⟨h.below hbw2, HX1.out, HX2.out, HX3.out, (hf.below hbw2 (Nat.le_refl _)).more hbw2.size, (ht.below hbw2 (Nat.le_refl _)).more hbw2.size, hfn, htn⟩
  have hstart : RgI w (w.heap.size + 1) w.heap.size most G D q P (w.heap.size + 2) (w.heap.size + 2 + 1) (w.heap.size + 2 + 1 + 1) F T f t fn fc tn tc ([] : List {x : Ent // x ∈ flat ps}) w2 := ⟨w.heap.size + 1, .slice none 0 0, [], ⟨(HB2.out.block _ (by omega)).trans hl1, .inl ⟨rfl, rfl, rfl, rfl⟩, .inl rfl, fun e he => by simp at he, ⟨_, _, _, (HB2.out.block _ (by omega)).trans hl1⟩, fun e he => by simp at he, (HB2.out.block _ (by omega)).trans hm1, hBtw⟩, rfl, hbw2, by omega, Nat.zero_le _⟩
  have hseq := closure_stops 2 (n1 := w2.heap.size) (bl := w.heap.size + 1) hBtw (Nat.le_refl _) (fun j hj => by have := hGS j hj; omega) (fun j hj => by have := hDS j hj; omega) (by omega) (by omega) (by omega) (fun hn ad ha => by have := hFS hn ad ha; omega) (fun hn ad ha => by have := hTS hn ad ha; omega)
  have hIo := RgI.own (ps := ps) w (w.heap.size + 1) w.heap.size w2.heap.size most G D q P (w.heap.size + 2) (w.heap.size + 2 + 1) (w.heap.size + 2 + 1 + 1) F T f t fn fc tn tc (by omega) (fun j hj => by have := hGS j hj; omega) (fun j hj => by have := hDS j hj; omega) (fun hn ad ha => by have := hFS hn ad ha; omega) (fun hn ad ha => by have := hTS hn ad ha; omega)
  have hXo := RgX.own (ps := ps) w (w.heap.size + 1) w.heap.size w2.heap.size most G D q P (w.heap.size + 2) (w.heap.size + 2 + 1) (w.heap.size + 2 + 1 + 1) F T f t fn fc tn tc (by omega) (fun j hj => by have := hGS j hj; omega) (fun j hj => by have := hDS j hj; omega) (fun hn ad ha => by have := hFS hn ad ha; omega) (fun hn ad ha => by have := hTS hn ad ha; omega)
  refine wpIn_rangeFunc_ownH (n := 3) rfl (by decide) (gf := 118) (lb := #[.pointer (some ⟨w.heap.size + 2, 0, none⟩), .pointer (some ⟨w.heap.size + 2 + 1, 0, none⟩), .pointer (some ⟨w.heap.size + 2 + 1 + 1, 0, none⟩)]) rfl trivial (enters_of Tryz.func118 (by kernel_rfl) rfl) hseq
    (fun {A B C} h k => Only.trans h k (fun _ _ e => e))
    (fun W l o o' hl ho hc hw => (Only.of_grown (grownBy_putObj' W l o')).more (fun k _ e => .inr (by cases e; exact hl)))
    (Below.refl _ _) (fun _ => rfl)
    (RgI w (w.heap.size + 1) w.heap.size most G D q P (w.heap.size + 2) (w.heap.size + 2 + 1) (w.heap.size + 2 + 1 + 1) F T f t fn fc tn tc)
    (fun c pre W => c = .exit 0 ∧ RgX w (w.heap.size + 1) w.heap.size most G D q P (w.heap.size + 2) (w.heap.size + 2 + 1) (w.heap.size + 2 + 1 + 1) F T f t fn fc tn tc pre W)
    hIo (fun c pre W W' row h hg hr => ⟨h.1, hXo pre W W' row h.2 hg hr⟩) hstart
    (fun x a' W => ∃ Bx, w2.heap.size ≤ Bx ∧ W.heap[Bx]? = some (.cells #[.slice x.1.kA x.1.k.length x.1.kc, .slice x.1.rA x.1.r.length x.1.rc] 92 (0, 0)) ∧ a' = { tmps := #[.pointer (some ⟨q, 0, none⟩), .slice F fn fc, .slice T tn tc, .int .i64 most, undef, undef, undef, .pointer (some ⟨w.heap.size, 0, none⟩), .slice none 0 0, .pointer (some ⟨w.heap.size + 1, 0, none⟩), .pointer (some ⟨Bx, 0, none⟩), .pointer (some ⟨q, 0, none⟩), .bool false, .pointer (some ⟨q, 0, none⟩), .slice F fn fc, .slice T tn tc, .func (.func 118) #[] #[.pointer (some ⟨w.heap.size + 2, 0, none⟩), .pointer (some ⟨w.heap.size + 2 + 1, 0, none⟩), .pointer (some ⟨w.heap.size + 2 + 1 + 1, 0, none⟩)], x.1.v, undef, undef, undef, undef, undef, undef, undef, undef, undef, undef], defers := [] })
    (fun x a' _ W W' row hs hg hr => by
      obtain ⟨Bx, e1, e2, e3⟩ := hs
      refine ⟨Bx, e1, ((Only.of_grown hg).block Bx (Array.getElem?_eq_some_iff.1 e2).1 (fun e4 => ?_)).trans e2, e3⟩
      obtain ⟨_, o, ho, hc⟩ := hr Bx e4.symm
      rw [e2] at ho
      injection ho with ho
      subst ho
      cases hc) ?assign ?body ?done ?stop
  case assign =>
    rintro l pre ⟨⟨kA, k, kc, rA, r, rc⟩, hmem⟩ W K hi hK
    dsimp only [Ent.v] at hK ⊢
    gi_wp2
    have hg9 := (World.grownBy_alloc W (.cells #[.slice kA k.length kc, .slice rA r.length rc] 92) none)
    refine hK _ _ (KeepsFrom.of_grownBy hg9 (fun j e => by cases e)) ((Only.of_grown hg9).more (fun j _ e => by cases e)) (hIo _ _ _ _ hi hg9 (fun j e => by cases e)) ⟨W.heap.size, ?_, heap_alloc_new W _, rfl⟩
    obtain ⟨g, v, es, h1, h2, h3, h4, h5⟩ := hi
    omega
  case body =>
    rintro l pre ⟨⟨kA, k, kc, rA, r, rc⟩, hmem⟩ a' W hlw hloop ⟨g, v, es, hR, hkv, hbl, hsz, hpm⟩ ⟨Bx, hBx, hbx, rfl⟩ hpl
    dsimp only [Ent.v] at hbx ⊢
    obtain ⟨A, cap, rfl, hcl, _⟩ := hR.row.slice
    have x0 : W.cell? ⟨w.heap.size + 1, 0, none⟩ = some (.slice A es.length cap) := by simp [World.cell?, hR.box]
    have x1 : W.cell? ⟨w.heap.size, 0, none⟩ = some (.int .i64 most) := by simp [World.cell?, hR.m]
    obtain ⟨x2, x3⟩ := box2 hbx
    have hkl : es.length = pre.length := by
      have h6 := congrArg List.length hkv
      simp only [kv, List.length_map] at h6
      exact h6
    rcases Decidable.em (most ≤ (es.length : Int)) with hm | hm
    · have HKL := Lib.hid hkl
      clear hkl
      gi_wp2
      have hkl := HKL.out
      exact ⟨KeepsFrom.refl _ _, rfl, pre, _, rfl, ⟨g, _, es, hR, hkv, hbl, hsz, hpm⟩, by omega⟩
    · have hmx : Tryz.prog.follows .mixedOrders = true := by kernel_rfl
      have hfew : es.length ≤ 900 := by
        have h6 : (rangeL f t (flat ps)).length ≤ (flat ps).length := List.length_filter_le _ _
        have h7 := h.few
        omega
      obtain ⟨p0, hp0, he0⟩ := List.mem_flatMap.1 hmem
      have hE := hR.b.tb.t.ents p0 hp0 _ he0
      have HC : Hid (∀ W', Below W.heap.size W W' → Calls Tryz.prog 88 #[.agg #[.slice kA k.length kc, .slice rA r.length rc]] W' (CopT W' ⟨kA, k, kc, rA, r, rc⟩)) := Lib.hid fun W' hb => entCopied_any kA rA k r kc rc _ _ rfl rfl W' ((hE.key.below hb (Nat.le_refl _)).more hb.size) ((hE.row.below hb (Nat.le_refl _)).more hb.size) hE.kl hE.rl
      have HAP : Hid (∀ (w3 : World) (e' : Ent), e'.k = k → e'.r = r → Below W.heap.size W w3 → OwnB w3 W.heap.size (.slice e'.kA e'.k.length e'.kc) e'.k → OwnB w3 W.heap.size (.slice e'.rA e'.r.length e'.rc) e'.r → ∃ A' c' w5, w3.cell? ⟨w.heap.size + 1, 0, none⟩ = some (.slice A es.length cap) ∧ (w3.alloc (.cells #[.slice e'.kA e'.k.length e'.kc, .slice e'.rA e'.r.length e'.rc] 92)).cell? ⟨w.heap.size + 1, 0, none⟩ = some (.slice A es.length cap) ∧ (Builtin.append_ #[31, 31] 31 #[.slice A es.length cap, .slice (some ⟨w3.heap.size, 0, none⟩) 1 1]).run Tryz.prog (w3.alloc (.cells #[.slice e'.kA e'.k.length e'.kc, .slice e'.rA e'.r.length e'.rc] 92)) = .ok (.slice A' (es.length + 1) c') w5 ∧ w5.cell? ⟨w.heap.size + 1, 0, none⟩ = some (.slice A es.length cap) ∧ w5.frozen? ⟨w.heap.size + 1, 0, none⟩ = false ∧
          Hid ((∀ B, KeepsFrom B W (w5.setCell ⟨w.heap.size + 1, 0, none⟩ (.slice A' (es.length + 1) c'))) ∧ KpR (w.heap.size + 5) (w.heap.size + 1) W (w5.setCell ⟨w.heap.size + 1, 0, none⟩ (.slice A' (es.length + 1) c')) ∧ RgI w (w.heap.size + 1) w.heap.size most G D q P (w.heap.size + 2) (w.heap.size + 2 + 1) (w.heap.size + 2 + 1 + 1) F T f t fn fc tn tc (pre ++ [⟨⟨kA, k, kc, rA, r, rc⟩, hmem⟩]) (w5.setCell ⟨w.heap.size + 1, 0, none⟩ (.slice A' (es.length + 1) c')))) := Lib.hid fun w3 e' hek her hb3 hk hr => by
        obtain ⟨i0, hi, hz0, hz1, hz2⟩ := info_parts infoE
        obtain ⟨w4, hw4⟩ : ∃ w4, w4 = w3.alloc (.cells #[.slice e'.kA e'.k.length e'.kc, .slice e'.rA e'.r.length e'.rc] 92) := ⟨_, rfl⟩
        have hb4 : Below w3.heap.size w3 w4 := by rw [hw4]; exact alloc_below _ _
        have hn4 : w4.heap[w3.heap.size]? = some (.cells #[.slice e'.kA e'.k.length e'.kc, .slice e'.rA e'.r.length e'.rc] 92 (0, 0)) := by rw [hw4]; exact heap_alloc_new _ _
        rw [← hw4]
        have hbW4 : Below W.heap.size W w4 := hb3.trans (hb4.mono hb3.size)
        have hgl : g < W.heap.size := by
          obtain ⟨c, e, fr, h1⟩ := hR.gc
          exact (Array.getElem?_eq_some_iff.1 h1).1
        have hown4 := hR.row.only (Only.of_below (K := fun _ => False) hbW4) (fun _ => id)
        have hsr : ∀ j u, [Value.slice e'.kA e'.k.length e'.kc, Value.slice e'.rA e'.r.length e'.rc][j]? = some u → w4.cell? ((⟨w3.heap.size, 0, none⟩ : Addr).add j) = some u := fun j u hj => by rw [add_plain, cell_of_row _ _ j _ _ (0, 0) hn4]; simpa using hj
        obtain ⟨g', v', w5, hrun, hrow, hO, hg'⟩ := run_appHC (P := Tryz.prog) 31 31 92 Tryz.underlying31 hi hz0 hz1 hz2 (by simp [Value.cells]) (by decide) hown4 (by have := hbW4.size; omega) (m := 1) (c := 1) rfl hsr (by simp [Value.oneCell']) (by omega) (by omega)
        obtain ⟨A', c', rfl, _, _⟩ := hrow.slice
        obtain ⟨hn1, hn2, hn3, hn5⟩ := hR.took (e' := e') hsz hGS hDS hFS hTS hb3 hk hr hb4 hrow hO hg'
        have hbx5 : w5.heap[w.heap.size + 1]? = some (.cells #[.slice A es.length cap] 31 (0, 0)) := (hO.block _ (by have := hbW4.size; omega) (fun e => e.2 rfl)).trans ((hbW4.block _ (by omega)).trans hR.box)
        have hbx3 := (hb3.block _ (by omega)).trans hR.box
        have hbx4 := (hbW4.block _ (by omega)).trans hR.box
        refine ⟨A', c', w5, by simp [World.cell?, hbx3], by simp [World.cell?, hbx4], hrun, by simp [World.cell?, hbx5], frozen_of hbx5 0, Lib.hid ⟨hn5, hn3, g', _, _, hn1, ?_, hbl.trans hn2, Nat.le_trans hsz hn3.size, ?_⟩⟩
        · unfold kv at hkv ⊢
          rw [List.map_append, hkv, List.map_append, List.map_append]
          simp [hek, her]
        · rw [List.length_append, List.length_singleton]
          omega
      clear hE he0 hp0 hkl
      gi_wp2_with fail
      gi_region_with_o (refine ⟨trivial, ?_⟩; gi_at_call 88; refine (CallsIn.inRound l (callsIn_wide.2 (HC.out _ (by first | exact Below.refl _ _ | exact drew_below _)))).mono ?_; rintro e w3 ⟨⟨kA', k', kc', rA', r', rc'⟩, rfl, hek, her, hk', hr', hb⟩
                        obtain ⟨A', c', w5, hc3, hc4, hrun, hc5, hf5, HN⟩ := HAP.out w3 _ hek her (below_drew hb) hk' hr'
                        dsimp only [Ent.v] at hrun hc4 ⊢
                        clear hek her hk' hr' hb)
      all_goals gi_wp2
      all_goals exact ⟨HN.out.1 _, by rw [hs2]; exact HN.out.2.1, HN.out.2.2⟩
  case done =>
    rintro D xs W hD hS ⟨g, v, es, hR, hkv, hbl, hsz, hpm⟩ hK
    have x0 : W.cell? ⟨w.heap.size + 1, 0, none⟩ = some v := by simp [World.cell?, hR.box]
    have HT : Hid (RgT w (kv (List.take most.toNat (rangeL f t (flat ps)))) (.returned v) (W.putObj D (.deferred none))) := Lib.hid (by
      have hg9 := grownBy_putObj' W D (.deferred none)
      have hR' := hR.grow (S := w.heap.size + 5) hg9 (fun r e => by cases e; exact ⟨by omega, _, hK, rfl⟩) (fun j hj => by have := hGS j hj; omega) (fun j hj => by have := hDS j hj; omega) (fun hn ad ha => by have := hFS hn ad ha; omega) (fun hn ad ha => by have := hTS hn ad ha; omega)
      have hne := hR'.new
      refine ⟨_, g, v, es, rfl, hR'.row, by omega, by omega, hR'.own, ?_, hbl.trans ((Only.of_grown hg9).below hbl.size (fun j e => by cases e; omega))⟩
      rw [hkv, hS, List.take_of_length_le (by rw [← hS, List.length_map]; exact hpm)])
    clear hkv hS
    gi_wp2
    refine ⟨by simp, .inl ⟨_, _, rfl, run_takeDeferred hK, ?_⟩⟩
    refine ⟨_, results_tmp rfl _ _ _, ?_⟩
    exact HT.out
  case stop =>
    rintro D c pre W hD hS ⟨rfl, pre0, x, rfl, ⟨g, v, es, hR, hkv, hbl, hsz, hpm⟩, hlt⟩ hK
    have x0 : W.cell? ⟨w.heap.size + 1, 0, none⟩ = some v := by simp [World.cell?, hR.box]
    have HT : Hid (RgT w (kv (List.take most.toNat (rangeL f t (flat ps)))) (.returned v) (W.putObj D (.deferred none))) := Lib.hid (by
      have hg9 := grownBy_putObj' W D (.deferred none)
      have hR' := hR.grow (S := w.heap.size + 5) hg9 (fun r e => by cases e; exact ⟨by omega, _, hK, rfl⟩) (fun j hj => by have := hGS j hj; omega) (fun j hj => by have := hDS j hj; omega) (fun hn ad ha => by have := hFS hn ad ha; omega) (fun hn ad ha => by have := hTS hn ad ha; omega)
      have hne := hR'.new
      refine ⟨_, g, v, es, rfl, hR'.row, by omega, by omega, hR'.own, ?_, hbl.trans ((Only.of_grown hg9).below hbl.size (fun j e => by cases e; omega))⟩
      obtain ⟨r, hr⟩ := hS
      rw [hkv, ← hr, List.map_append, List.append_assoc, List.take_left' (by rw [List.length_map]; omega)])
    clear hkv hS
    gi_wp2
    refine ⟨by simp, .inl ⟨_, _, rfl, run_takeDeferred hK, ?_⟩⟩
    refine ⟨_, results_tmp rfl _ _ _, ?_⟩
    exact HT.out
end Go.Proofs.YtkohppalfcalbaaGreat
