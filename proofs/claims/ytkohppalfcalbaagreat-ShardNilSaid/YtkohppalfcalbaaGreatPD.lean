/- Appends of two types; bytes.Clone; a copy of an entry. -/
import Derived.Test.YtkohppalfcalbaaGreatPC
namespace Go.Proofs.YtkohppalfcalbaaGreat
open Go.RowKit

/-- clear, whatever the elements' size -/
theorem run_clearC {P : Program} {w : World} (t e : TypeId) {sz : Nat} {z : Value} (ht : P.underlying t = some (.slice e)) (hv : ∀ w, (zeroValue e).run P w = .ok z w) (hzs : z.cells.size = sz) (h1 : ∀ u ∈ z.cells, u.oneCell' = true) (hsz : 0 < sz)
    {g p cap n k : Nat} {vs : List Value} (hown : OwnC w g p cap sz n vs) {m c p' : Nat} (hp : p' = p + k * sz) (hm : 0 < m) (hk : n ≤ k) (hkm : k + m ≤ cap) :
    ∃ w', (∀ ty, (Builtin.clear_ #[t] ty #[.slice (some ⟨g, p', none⟩) m c]).run P w = .ok (.tuple #[]) w') ∧ OwnC w' g p cap sz n vs ∧ Only (· = g) w w' := by
  subst hp
  have hzl : (Builtin.zeroCells z.cells m).toList.length = m * sz := by simp [Builtin.zeroCells, hzs]
  have hle : k * sz + m * sz ≤ cap * sz := by rw [← Nat.add_mul]; exact Nat.mul_le_mul_right _ hkm
  have hst := run_storeCells_cells (P := P) g (p + k * sz) (Builtin.zeroCells z.cells m).toList 0 w
    (fun j hj => by rw [hzl] at hj; rw [Nat.add_zero, Nat.add_assoc]; exact (hown.free _ (by omega)).1)
    (fun j hj => by rw [hzl] at hj; rw [Nat.add_zero, Nat.add_assoc]; exact (hown.free _ (by omega)).2)
    (fun u hu => by
      simp only [Builtin.zeroCells, Array.toList_map, List.mem_map] at hu
      obtain ⟨i, _, rfl⟩ := hu
      have hlt : i % z.cells.size < z.cells.size := Nat.mod_lt _ (by omega)
      rw [getElem!_pos z.cells _ hlt]
      exact h1 _ (Array.getElem_mem hlt))
  simp only [Nat.add_zero] at hst
  have hrun : ∀ ty, (Builtin.clear_ #[t] ty #[.slice (some ⟨g, p + k * sz, none⟩) m c]).run P w = .ok (.tuple #[]) (w.setCells g (p + k * sz) (Builtin.zeroCells z.cells m).toList) := fun ty => by
    obtain ⟨m', rfl⟩ : ∃ m', m = m' + 1 := ⟨m - 1, by omega⟩
    simp [Builtin.clear_, run_underlying ht, hv, hst]
  have ho2 := hown.past (k := k * sz) (ys := (Builtin.zeroCells z.cells m).toList) (by rw [hown.len]; exact Nat.mul_le_mul_right _ hk) (by rw [hzl]; omega)
  exact ⟨_, hrun, ho2, Only.sets g _ _ w⟩
/-- append of so many zero values to the first ones, without room: a new row -/
theorem run_appZ {P : Program} {w : World} (t tn e : TypeId)
    {i0 : TypeInfo} {z : Value} {sz bytes : Nat} (ht : P.underlying t = some (.slice e)) (htn : P.underlying tn = some (.int .i64)) (hi : P.info? e = some i0) (hz : i0.zero = some z) (hs : i0.size = sz) (hb : i0.bytes = bytes) (hzs : z.cells.size = sz) (hsp : 0 < sz)
    {g p cap n k m N : Nat} {vs : List Value} (hown : OwnC w g p cap sz n vs) (hkn : k ≤ n) {y : Int} (hy : y = (m : Int)) (hm : 0 < m) (hN : k + m = N) (hroom : cap < N) (h63 : N ≤ 1000000) (hby : N * bytes ≤ 140737488355328) :
    ∃ w' cap' us, (∀ ty, (Builtin.append_ #[t, tn] ty #[.slice (some ⟨g, p, none⟩) k cap, .int .i64 y]).run P w = .ok (.slice (some ⟨w.heap.size, 0, none⟩) N cap') w') ∧ us.length = N * sz ∧ us.take (k * sz) = vs.take (k * sz) ∧ OwnC w' w.heap.size 0 cap' sz N us ∧ Below w.heap.size w w' ∧ N ≤ cap' := by
  subst hN
  subst hs hy
  have hc := hown.cut hkn
  have hold : (Builtin.firstCells i0.size k (.slice (some ⟨g, p, none⟩) k cap)).run P w.drew = .ok (vs.take (k * i0.size)).toArray w.drew :=
    run_firstCells_some w.drew i0.size k ⟨g, p, none⟩ k cap _ hc.len (fun j v hj => by rw [Addr.add_lit]; exact hc.cell j v hj)
  have hrun := fun ty => Lib.run_append_grow_zeros (P := P) w t tn ty e i0 z .i64 .i64 ht htn hi hz (some ⟨g, p, none⟩) k cap _ hold m hm hsp hroom (by omega) (by rw [hb]; have := Nat.le_mul_of_pos_left (m * bytes) (show 0 < 1 by omega); have h4 : m * bytes ≤ (k + m) * bytes := Nat.mul_le_mul_right _ (by omega); omega) (by rw [hb]; exact growslice_fits hroom hby)
  obtain ⟨G, hG⟩ : ∃ G, G = grownCap w (k + m) cap e := ⟨_, rfl⟩
  have hGn : k + m ≤ G := by rw [hG]; exact grownCap_ge w _ _ _
  rw [← hG] at hrun
  have hcl := hc.len
  have hzl : (Builtin.zeroCells z.cells m).size = m * i0.size := by simp [Builtin.zeroCells, hzs]
  have hzl2 : (Builtin.zeroCells z.cells (G - (k + m))).size = (G - (k + m)) * i0.size := by simp [Builtin.zeroCells, hzs]
  have hGm : (k + m) * i0.size + (G - (k + m)) * i0.size = G * i0.size := by rw [← Nat.add_mul]; congr 1; omega
  have hkm : (k + m) * i0.size = k * i0.size + m * i0.size := Nat.add_mul _ _ _
  obtain ⟨us, hus⟩ : ∃ us, us = vs.take (k * i0.size) ++ (Builtin.zeroCells z.cells m).toList := ⟨_, rfl⟩
  have hul : us.length = (k + m) * i0.size := by rw [hus, List.length_append, hcl, Array.length_toList, hzl]; omega
  obtain ⟨ROW, hROW⟩ : ∃ ROW, ROW = (vs.take (k * i0.size)).toArray ++ Builtin.zeroCells z.cells m ++ Builtin.zeroCells z.cells (G - (k + m)) := ⟨_, rfl⟩
  have hrl : ROW.size = G * i0.size := by rw [hROW, Array.size_append, Array.size_append, List.size_toArray, hcl, hzl, hzl2]; omega
  have hru : ∀ j u, us[j]? = some u → ROW[j]? = some u := fun j u hu => by
    have hj := (List.getElem?_eq_some_iff.1 hu).1
    rw [hROW, Array.getElem?_append_left (by rw [Array.size_append, List.size_toArray, hcl, hzl]; omega), ← Array.getElem?_toList, Array.toList_append, List.toList_toArray, ← hus]
    exact hu
  rw [← hROW] at hrun
  have hh : (w.drew.alloc (.cells ROW e)).heap[w.heap.size]? = some (.cells ROW e (0, 0)) := heap_alloc_new w.drew (.cells ROW e)
  refine ⟨_, G, us, hrun, hul, (by rw [hus, List.take_append_of_le_length (by omega), List.take_take, Nat.min_self]), ⟨by simp, hul, hGn, fun j hj => ?_, fun j u hu => ?_⟩, (below_drew (alloc_below w.drew _)), hGn⟩
  · rw [Nat.zero_add, cell_of_row _ w.heap.size j ROW e (0, 0) hh]
    refine ⟨by rw [Array.getElem?_eq_getElem (by omega)]; rfl, by unfold World.frozen?; rw [show (⟨w.heap.size, j, none⟩ : Addr).block = w.heap.size from rfl, hh]; simp⟩
  · rw [Nat.zero_add, cell_of_row _ w.heap.size j ROW e (0, 0) hh]
    exact hru j u hu
theorem run_copyC {P : Program} {w : World} (dT sT elem : TypeId) {sz : Nat} (hu : P.underlying dT = some (.slice elem)) (hs : (P.info? elem).map (·.size) = some sz)
    {g p cap n k n' : Nat} {vs vs' ys : List Value} (hown : OwnC w g p cap sz n vs) (dLen p' : Nat) (hp : p' = p + k) (A : Addr) (sLen m : Nat)
    (hm : m = Nat.min sLen dLen) (hl : ys.length = m * sz) (hr : ∀ j u, ys[j]? = some u → w.cell? (A.add j) = some u) (h1 : ∀ u ∈ ys, u.oneCell' = true) (hk : k + ys.length ≤ cap * sz)
    (hov : OwnC (w.setCells g (p + k) ys) g p cap sz n' vs') : ∃ w', (∀ ty dc sc, (Builtin.copy_ #[dT, sT] ty #[.slice (some ⟨g, p', none⟩) dLen dc, .slice (some A) sLen sc]).run P w = .ok (goInt m) w') ∧ OwnC w' g p cap sz n' vs' ∧ Only (· = g) w w' := by
  subst hp
  exact ⟨_, fun ty dc sc => run_copy_sz (P := P) w dT sT ty elem sz g (p + k) dLen dc A sLen sc m ys hu hs hm hl hr (fun j hj => by rw [Nat.add_assoc]; exact (hown.free (k + j) (by omega)).1) (fun j hj => by rw [Nat.add_assoc]; exact (hown.free (k + j) (by omega)).2) h1, hov, Only.sets g _ _ w⟩
theorem OwnC.mid_ {w : World} {g o cap sz n k : Nat} {a b c ys : List Value} (h : OwnC w g o cap sz n (a ++ (b ++ c))) (hb : ys.length = b.length) (ha : a.length = k) : OwnC (w.setCells g (o + k) ys) g o cap sz n (a ++ (ys ++ c)) := by
  subst ha
  exact h.mid hb
theorem take_next_ (vs : List Value) (k sz : Nat) : vs.take (k + sz) = vs.take k ++ (vs.drop k).take sz := by rw [List.take_add]
theorem run_append_two {P : Program} (w : World) (t t2 ty e e2 : TypeId) {i0 : TypeInfo} (hi : P.info? e = some i0) (ht : P.underlying t = some (.slice e)) (ht2 : P.underlying t2 = some (.slice e2)) (s x : Value) : (Builtin.append_ #[t, t2] ty #[s, x]).run P w = (Builtin.append_ #[t, t] ty #[s, x]).run P w := by
  cases s <;> simp [Builtin.append_, run_underlying ht, run_underlying ht2, sizeOf, typeInfo, hi]
theorem cloneA_any (l : List UInt8) (A : Option Addr) (n cap : Nat) (hn : l.length = n) (w : World) (hl : l.length ≤ 100000) (hr : RdB w w.heap.size A l) : Calls Tryz.prog 71 #[.slice A n cap] w (CloneTo w l) := by
  rcases A with _ | a
  · have : l = [] := by
      rcases l with _ | ⟨y, t⟩
      · rfl
      · obtain ⟨_, e, _⟩ := hr (by simp); cases e
    subst this
    exact clone_nil n cap w
  · exact clone_any l a n cap hn w hl hr
/-- what a copy of an entry is -/
def CopT (w : World) (e : Ent) (en : Ending) (w' : World) : Prop := ∃ e', en = .returned (Ent.v e') ∧ e'.k = e.k ∧ e'.r = e.r ∧ OwnB w' w.heap.size (.slice e'.kA e'.k.length e'.kc) e'.k ∧ OwnB w' w.heap.size (.slice e'.rA e'.r.length e'.rc) e'.r ∧ Below w.heap.size w w'
theorem OwnB.new {w : World} {B : Nat} {v : Value} {l : List UInt8} (h : OwnB w B v l) : ∃ A cap, v = .slice A l.length cap := by
  obtain ⟨_, A, cap, h, _⟩ := h
  exact ⟨A, cap, h⟩
/-- the two boxes of a copy: the entry's, the answer's -/
structure CpB (w W : World) (kA rA : Option Addr) (k r : List UInt8) (kc rc : Nat) : Prop where
  bel : Below w.heap.size w W
  size : w.heap.size + 2 ≤ W.heap.size
  a : W.heap[w.heap.size]? = some (.cells #[.slice kA k.length kc, .slice rA r.length rc] 92 (0, 0))
  b : W.heap[w.heap.size + 1]? = some (.cells #[.slice none 0 0, .slice none 0 0] 92 (0, 0))
theorem CpB.next {w W W2 : World} {kA rA : Option Addr} {k r : List UInt8} {kc rc : Nat} (h : CpB w W kA rA k r kc rc) (hb : Below W.heap.size W W2) : CpB w W2 kA rA k r kc rc :=
  ⟨h.bel.trans (hb.mono h.bel.size), Nat.le_trans h.size hb.size, (hb.block _ (by have := h.size; omega)).trans h.a, (hb.block _ (by have := h.size; omega)).trans h.b⟩
theorem CpB.new (w : World) (kA rA : Option Addr) (k r : List UInt8) (kc rc : Nat) : CpB w ((w.alloc (.cells #[.slice kA k.length kc, .slice rA r.length rc] 92)).alloc (.cells #[.slice none 0 0, .slice none 0 0] 92)) kA rA k r kc rc := by
  have e1 : (w.alloc (.cells #[.slice kA k.length kc, .slice rA r.length rc] 92)).heap.size = w.heap.size + 1 := by simp
  refine ⟨(alloc_below w _).trans ((alloc_below _ _).mono (by simp)), by simp, ?_, ?_⟩
  · rw [Below.heap_alloc _ _ _ (by simp)]
    exact heap_alloc_new w _
  · have h := heap_alloc_new (w.alloc (.cells #[.slice kA k.length kc, .slice rA r.length rc] 92)) (.cells #[.slice none 0 0, .slice none 0 0] 92)
    rw [e1] at h
    exact h
theorem CpB.cells {w W : World} {kA rA : Option Addr} {k r : List UInt8} {kc rc : Nat} (h : CpB w W kA rA k r kc rc) : ∀ V : World, V.heap = W.heap → V.cell? ⟨w.heap.size, 0, none⟩ = some (.slice kA k.length kc) ∧ V.cell? ⟨w.heap.size, 1, none⟩ = some (.slice rA r.length rc) := fun V e => box2 (by rw [e]; exact h.a)
theorem CpB.ends {w W : World} {kA rA kA' rA' : Option Addr} {k r : List UInt8} {kc rc kc' rc' kn rn : Nat} (h : CpB w W kA rA k r kc rc) (hkn : kn = k.length) (hrn : rn = r.length) (hk : OwnB W w.heap.size (.slice kA' kn kc') k) (hr : OwnB W w.heap.size (.slice rA' rn rc') r)
    (hk2 : ∀ g, (Value.slice kA' kn kc').ownBlock = some g → g ≠ w.heap.size + 1) (hr2 : ∀ g, (Value.slice rA' rn rc').ownBlock = some g → g ≠ w.heap.size + 1) :
    CopT w ⟨kA, k, kc, rA, r, rc⟩ (.returned (.agg #[.slice kA' kn kc', .slice rA' rn rc'])) ((W.setCell ⟨w.heap.size + 1, 0, none⟩ (.slice kA' kn kc')).setCell ⟨w.heap.size + 1, 1, none⟩ (.slice rA' rn rc')) := by
  subst hkn hrn
  have hO : Only (· = w.heap.size + 1) W ((W.setCell ⟨w.heap.size + 1, 0, none⟩ (.slice kA' k.length kc')).setCell ⟨w.heap.size + 1, 1, none⟩ (.slice rA' r.length rc')) := (Only.set W _ 0 _).trans (Only.set _ _ 1 _) (fun _ _ e => e)
  have hg : ∀ {v : Value} {l : List UInt8}, OwnB W w.heap.size v l → (∀ g, v.ownBlock = some g → g ≠ w.heap.size + 1) → OwnB ((W.setCell ⟨w.heap.size + 1, 0, none⟩ (.slice kA' k.length kc')).setCell ⟨w.heap.size + 1, 1, none⟩ (.slice rA' r.length rc')) w.heap.size v l := fun {v l} h hne => by
    refine ⟨⟨h.1.1, ?_⟩, h.2⟩
    rcases h.1.2 with h1 | ⟨g, cap, cur, h1, h2, h3, h4⟩
    · exact .inl h1
    · exact .inr ⟨g, cap, cur, h1, h2, (hO.block g (Array.getElem?_eq_some_iff.1 h3).1 (hne g (by rw [h1]; rfl))).trans h3, h4⟩
  exact ⟨⟨kA', k, kc', rA', r, rc'⟩, rfl, rfl, rfl, hg hk hk2, hg hr hr2, h.bel.trans (hO.below h.bel.size (fun j e => by omega))⟩
theorem frozen_of {w : World} {b : Nat} {cs : Array Value} {t : TypeId} (h : w.heap[b]? = some (.cells cs t (0, 0))) (i : Nat) : w.frozen? ⟨b, i, none⟩ = false := by
  unfold World.frozen?
  rw [show (⟨b, i, none⟩ : Addr).block = b from rfl, h]
  simp
/-- bytes of the call's own that were made behind a world -/
structure CpO (W0 W : World) (B : Nat) (A : Option Addr) (n c : Nat) (l : List UInt8) : Prop where
  own : OwnB W B (.slice A n c) l
  new : ∀ g, (Value.slice A n c).ownBlock = some g → W0.heap.size ≤ g
theorem CpO.next {W0 W W2 : World} {B n c : Nat} {A : Option Addr} {l : List UInt8} (h : CpO W0 W B A n c l) (hb : Below W.heap.size W W2) : CpO W0 W2 B A n c l := ⟨h.own.below hb, h.new⟩
theorem OwnB.down {w : World} {B C : Nat} {v : Value} {l : List UInt8} (h : OwnB w B v l) (hC : C ≤ B) : OwnB w C v l := by
  refine ⟨⟨h.1.1, ?_⟩, h.2⟩
  rcases h.1.2 with h1 | ⟨g, cap, cur, h1, h2, h3⟩
  · exact .inl h1
  · exact .inr ⟨g, cap, cur, h1, Nat.le_trans hC h2, h3⟩
theorem CpO.of {W W2 : World} {B n c : Nat} {A : Option Addr} {l : List UInt8} (h : OwnB W2 W.heap.size (.slice A n c) l) (hB : B ≤ W.heap.size) : CpO W W2 B A n c l := ⟨h.down hB, h.ge⟩
set_option maxRecDepth 100000 in
set_option maxHeartbeats 4000000 in
theorem entCopied_any (kA rA : Option Addr) (k r : List UInt8) (kc rc kn rn : Nat) (hkn : kn = k.length) (hrn : rn = r.length) (w : World) (hk : RdB w w.heap.size kA k) (hr : RdB w w.heap.size rA r) (hkl : k.length ≤ 100000) (hrl : r.length ≤ 100000) :
    Calls Tryz.prog 88 #[.agg #[.slice kA kn kc, .slice rA rn rc]] w (CopT w ⟨kA, k, kc, rA, r, rc⟩) := by
  have HX := Lib.hid (CpB.new w kA rA k r kc rc)
  have HK : Hid (∀ W, Below w.heap.size w W → Calls Tryz.prog 71 #[.slice kA kn kc] W (CloneTo W k)) := Lib.hid fun W hb => cloneA_any k kA _ _ hkn.symm W hkl ((hk.below hb (Nat.le_refl _)).more hb.size)
  have HR : Hid (∀ W, Below w.heap.size w W → Calls Tryz.prog 71 #[.slice rA rn rc] W (CloneTo W r)) := Lib.hid fun W hb => cloneA_any r rA _ _ hrn.symm W hrl ((hr.below hb (Nat.le_refl _)).more hb.size)
  rw [← hkn, ← hrn] at HX
  have HKN := Lib.hid hkn
  have HRN := Lib.hid hrn
  clear hk hr hkl hrl hkn hrn
  go_enter Tryz.func88, Tryz.ntmps88
  go_wp2_with fail
  obtain ⟨w0, hw0⟩ : ∃ w0, w0 = (w.alloc (.cells #[.slice kA kn kc, .slice rA rn rc] 92)).alloc (.cells #[.slice none 0 0, .slice none 0 0] 92) := ⟨_, rfl⟩
  rw [← hw0] at HX ⊢
  clear hw0
  obtain ⟨x0, x1⟩ := HX.out.cells _ rfl
  rw [← HKN.out] at x0
  rw [← HRN.out] at x1
  go_region_law (first
    | (go_simp; go_at_call 71; (with_reducible refine (HK.out _ (by first | exact HX.out.bel | exact HX.out.bel.trans ((drew_below _).mono HX.out.bel.size) | exact HX.out.bel.trans ((drewN_below _ _).mono HX.out.bel.size))).mono ?_); rintro e w2 ⟨v, rfl, ho, hb⟩
       obtain ⟨A', c', rfl⟩ := ho.new
       have HOHK := Lib.hid (CpO.of (B := w.heap.size) ho (by first | exact HX.out.bel.size | exact (HX.out.bel.trans ((drew_below _).mono HX.out.bel.size)).size | exact (HX.out.bel.trans ((drewN_below _ _).mono HX.out.bel.size)).size))
       have HVHK : Hid (∀ g, (Value.slice A' k.length c').ownBlock = some g → g ≠ w.heap.size + 1) := Lib.hid (fun g hg => by have := HOHK.out.new g hg; have h2 := HX.out.size; first | omega | (simp at this; omega))
       have HX := Lib.hid (by first | exact HX.out.next hb | exact HX.out.next (below_drew hb) | exact (HX.out.next (drewN_below _ _)).next hb)
       obtain ⟨x0, x1⟩ := HX.out.cells _ rfl
       obtain ⟨y0, y1⟩ := box2 HX.out.b
       have z0 := frozen_of HX.out.b 0
       have z1 := frozen_of HX.out.b 1
       try (have HOHR := Lib.hid (by first | exact HOHR.out.next hb | exact HOHR.out.next (below_drew hb) | exact (HOHR.out.next (drewN_below _ _)).next hb))
       rw [← HKN.out]
       rw [← HKN.out] at x0
       rw [← HRN.out] at x1
       clear ho hb)
    | (go_simp; go_at_call 71; (with_reducible refine (HR.out _ (by first | exact HX.out.bel | exact HX.out.bel.trans ((drew_below _).mono HX.out.bel.size) | exact HX.out.bel.trans ((drewN_below _ _).mono HX.out.bel.size))).mono ?_); rintro e w2 ⟨v, rfl, ho, hb⟩
       obtain ⟨A', c', rfl⟩ := ho.new
       have HOHR := Lib.hid (CpO.of (B := w.heap.size) ho (by first | exact HX.out.bel.size | exact (HX.out.bel.trans ((drew_below _).mono HX.out.bel.size)).size | exact (HX.out.bel.trans ((drewN_below _ _).mono HX.out.bel.size)).size))
       have HVHR : Hid (∀ g, (Value.slice A' r.length c').ownBlock = some g → g ≠ w.heap.size + 1) := Lib.hid (fun g hg => by have := HOHR.out.new g hg; have h2 := HX.out.size; first | omega | (simp at this; omega))
       have HX := Lib.hid (by first | exact HX.out.next hb | exact HX.out.next (below_drew hb) | exact (HX.out.next (drewN_below _ _)).next hb)
       obtain ⟨x0, x1⟩ := HX.out.cells _ rfl
       obtain ⟨y0, y1⟩ := box2 HX.out.b
       have z0 := frozen_of HX.out.b 0
       have z1 := frozen_of HX.out.b 1
       try (have HOHK := Lib.hid (by first | exact HOHK.out.next hb | exact HOHK.out.next (below_drew hb) | exact (HOHK.out.next (drewN_below _ _)).next hb))
       rw [← HRN.out]
       rw [← HKN.out] at x0
       rw [← HRN.out] at x1
       clear ho hb))
  all_goals
    have HZ := Lib.hid (HX.out.ends HKN.out HRN.out (by rw [HKN.out]; exact HOHK.out.own) (by rw [HRN.out]; exact HOHR.out.own) (by rw [HKN.out]; exact HVHK.out) (by rw [HRN.out]; exact HVHR.out))
    go_wp2_with fail
    refine bodyPost_ret (v := Value.agg #[_, _]) (by simp [results, Tryz.results88, go_sem, y0, y1]; exact ⟨rfl, rfl⟩) rfl ?_
    exact HZ.out
end Go.Proofs.YtkohppalfcalbaaGreat
