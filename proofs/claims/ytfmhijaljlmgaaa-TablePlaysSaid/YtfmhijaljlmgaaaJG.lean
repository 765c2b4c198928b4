/- Rows of cells of the call's own from any place of a block on, whatever their elements are: appends to them, cuts of them. -/
import Derived.Test.YtfmhijaljlmgaaaDX
namespace Go.Proofs.Ytfmhijaljlmgaaa
open Go.RowKit

/-- n elements of sz cells each, vs in all, are the call's own: in block g from place o on, with room for cap of them -/
structure OwnC (w : World) (g o cap sz n : Nat) (vs : List Value) : Prop where
  lt : g < w.heap.size
  len : vs.length = n * sz
  room : n ≤ cap
  free : ∀ j, j < cap * sz → (w.cell? ⟨g, o + j, none⟩).isSome = true ∧ w.frozen? ⟨g, o + j, none⟩ = false
  cell : ∀ j u, vs[j]? = some u → w.cell? ⟨g, o + j, none⟩ = some u
theorem OwnC.keep {w w' : World} {g o cap sz n : Nat} {vs : List Value} (h : OwnC w g o cap sz n vs) (hs : w.heap.size ≤ w'.heap.size) (hb : w'.heap[g]? = w.heap[g]?) : OwnC w' g o cap sz n vs :=
  ⟨Nat.lt_of_lt_of_le h.lt hs, h.len, h.room, fun j hj => by
    rw [World.cell?_of_block (a := ⟨g, o + j, none⟩) hb, World.frozen?_of_block (a := ⟨g, o + j, none⟩) hb]
    exact h.free j hj, fun j c hj => by
    rw [World.cell?_of_block (a := ⟨g, o + j, none⟩) hb]
    exact h.cell j c hj⟩
theorem OwnC.only {K : Nat → Prop} {w w' : World} {g o cap sz n : Nat} {vs : List Value} (h : OwnC w g o cap sz n vs) (hO : Only K w w') (hK : ¬ K g) : OwnC w' g o cap sz n vs := h.keep hO.size (hO.block g h.lt hK)
theorem OwnC.heap {w w' : World} {g o cap sz n : Nat} {vs : List Value} (h : OwnC w g o cap sz n vs) (e : w'.heap = w.heap) : OwnC w' g o cap sz n vs := h.keep (by rw [e]; exact Nat.le_refl _) (by rw [e])
theorem ownC_of_row {w : World} {B g cap sz n m : Nat} {e : TypeId} {vs : List Value} (h : w.ownsRow B e sz (.slice (some ⟨g, 0, none⟩) m cap) n vs) : OwnC w g 0 cap sz n vs ∧ m = n ∧ B ≤ g := by
  obtain ⟨hlen, h2⟩ := h
  have h0 : w.ownsRow B e sz (.slice (some ⟨g, 0, none⟩) m cap) n vs := ⟨hlen, h2⟩
  rcases h2 with ⟨e1, _⟩ | ⟨g', cap', cur, e1, hg, hh, hnc, _, hsz, ht⟩
  · cases e1
  · injection e1 with e1 e2 e3
    injection e1 with e1
    injection e1 with e1
    subst e1 e2 e3
    refine ⟨⟨(Array.getElem?_eq_some_iff.1 hh).1, hlen, hnc, fun j hj => ?_, fun j u hj => ?_⟩, rfl, hg⟩
    · rw [Nat.zero_add, cell_of_row w g j cur _ (0, 0) hh]
      refine ⟨?_, ?_⟩
      · rw [Array.getElem?_eq_getElem (by omega)]; rfl
      · simp [World.frozen?, hh]
    · have h3 := h0.cells (g := g) rfl j u hj
      rw [add_plain] at h3
      rw [Nat.zero_add]; exact h3
theorem OwnC.drop {w : World} {g o cap sz n : Nat} {vs : List Value} (h : OwnC w g o cap sz n vs) {k : Nat} (hk : k ≤ n) : OwnC w g (o + k * sz) (cap - k) sz (n - k) (vs.drop (k * sz)) := by
  have hr := h.room
  have e1 : (cap - k) * sz = cap * sz - k * sz := Nat.sub_mul _ _ _
  have e2 : k * sz ≤ cap * sz := Nat.mul_le_mul_right _ (by omega)
  refine ⟨h.lt, by rw [List.length_drop, h.len, Nat.sub_mul], by omega, fun j hj => ?_, fun j c hj => ?_⟩
  · have := h.free (k * sz + j) (by omega)
    rwa [← Nat.add_assoc] at this
  · rw [List.getElem?_drop] at hj
    have := h.cell _ c hj
    rwa [← Nat.add_assoc] at this
theorem OwnC.none_ {w : World} {g o cap sz n : Nat} {vs : List Value} (h : OwnC w g o cap sz n vs) : OwnC w g o 0 sz 0 [] :=
  ⟨h.lt, by simp, Nat.le_refl _, fun j hj => by rw [Nat.zero_mul] at hj; omega, fun j c hj => by simp at hj⟩
/-- append to them -/
theorem run_appC {P : Program} {w : World} (t ty e : TypeId) {i0 : TypeInfo} {z : Value} {sz bytes : Nat} (ht : P.underlying t = some (.slice e)) (hi : P.info? e = some i0) (hz : i0.zero = some z) (hs : i0.size = sz) (hb : i0.bytes = bytes) (hzs : z.cells.size = sz) (hsp : 0 < sz)
    {g o cap n : Nat} {xs : List Value} (hown : OwnC w g o cap sz n xs) {a : Addr} {m c : Nat} {ys : List Value} (hl : ys.length = m * sz) (hr : ∀ j u, ys[j]? = some u → w.cell? (a.add j) = some u) (h1 : ∀ u ∈ ys, u.oneCell' = true) (h63 : n + m ≤ 1000000) (hby : (n + m) * bytes ≤ 140737488355328) :
    ∃ g' o' cap' w', (Builtin.append_ #[t, t] ty #[.slice (some ⟨g, o, none⟩) n cap, .slice (some a) m c]).run P w = .ok (.slice (some ⟨g', o', none⟩) (n + m) cap') w' ∧ OwnC w' g' o' cap' sz (n + m) (xs ++ ys) ∧ Only (· = g) w w' ∧ (g' = g ∨ w.heap.size ≤ g') := by
  have holds : ∀ j u, xs[j]? = some u → w.cell? ((⟨g, o, none⟩ : Addr).add j) = some u := by
    intro j u hu
    rw [Addr.add_lit]
    exact hown.cell j u hu
  by_cases hroom : n + m ≤ cap
  · have hmul : (n + m) * sz ≤ cap * sz := Nat.mul_le_mul_right _ hroom
    rw [Nat.add_mul] at hmul
    subst hs
    have hrun := run_append_room_cells (P := P) w t ty e i0 ht hi g o n cap a m c ys hl hr h1 hroom
      (fun j hj => by rw [hl] at hj; rw [Nat.add_assoc]; exact (hown.free (n * i0.size + j) (by omega)).1)
      (fun j hj => by rw [hl] at hj; rw [Nat.add_assoc]; exact (hown.free (n * i0.size + j) (by omega)).2)
    refine ⟨g, o, cap, _, hrun, ⟨?_, by rw [List.length_append, hown.len, hl, Nat.add_mul], hroom, fun j hj => ⟨isSome_sets g _ _ w _ (hown.free j hj).1, by rw [World.frozen?_setCells]; exact (hown.free j hj).2⟩, fun j d hj => ?_⟩, Only.sets g _ _ w, .inl rfl⟩
    · exact Nat.lt_of_lt_of_le hown.lt (Only.sets g _ _ w).size
    · by_cases hlt : j < xs.length
      · rw [World.cell?_setCells_out g _ _ w _ (fun _ _ => .inl (by show o + j < o + n * i0.size; rw [hown.len] at hlt; omega))]
        exact hown.cell j d (by rw [← hj, List.getElem?_append_left hlt])
      · rw [List.getElem?_append_right (by omega)] at hj
        have hjl := (List.getElem?_eq_some_iff.1 hj).1
        have hxl := hown.len
        have h2 := World.cell?_setCells_in g ys (o + n * i0.size) w (fun i hi => by
          rw [hl] at hi
          rw [Nat.add_assoc]
          exact (hown.free (n * i0.size + i) (by omega)).1) (j - xs.length) hjl
        rw [show o + n * i0.size + (j - xs.length) = o + j by omega] at h2
        rw [h2]
        congr 1
        exact (List.getElem?_eq_some_iff.1 hj).2
  · obtain ⟨v', w', hrun, h2, h3⟩ := run_append_arg_grows (P := P) w t ty e i0 z sz bytes ht hi hz hs hb hzs hsp ⟨g, o, none⟩ n cap xs hown.len holds a m c ys hl hr (by omega) (by unfold maxLen; omega) hby
    have h4 := h2.2
    rcases h4 with ⟨_, h0⟩ | ⟨g', cap', cur, hv, hg, _⟩
    · omega
    · subst hv
      exact ⟨g', 0, cap', w', hrun, (ownC_of_row h2).1, (Only.of_grown h3).more (fun j _ e => by cases e), .inr hg⟩
/-- a slice that is nil, or of the call's own cells (in block g, which is not q) -/
def HeldC (w : World) (q g sz : Nat) (v : Value) (n : Nat) (vs : List Value) : Prop := (v = .slice none 0 0 ∧ n = 0 ∧ vs = [] ∧ g = q) ∨ (g ≠ q ∧ ∃ o cap, v = .slice (some ⟨g, o, none⟩) n cap ∧ OwnC w g o cap sz n vs)
theorem HeldC.only {K : Nat → Prop} {w w' : World} {q g sz n : Nat} {v : Value} {vs : List Value} (h : HeldC w q g sz v n vs) (hO : Only K w w') (hK : g ≠ q → ¬ K g) : HeldC w' q g sz v n vs := by
  rcases h with h | ⟨hne, o, cap, hv, ho⟩
  · exact .inl h
  · exact .inr ⟨hne, o, cap, hv, ho.only hO (hK hne)⟩
theorem HeldC.heap {w w' : World} {q g sz n : Nat} {v : Value} {vs : List Value} (h : HeldC w q g sz v n vs) (e : w'.heap = w.heap) : HeldC w' q g sz v n vs := by
  rcases h with h | ⟨hne, o, cap, hv, ho⟩
  · exact .inl h
  · exact .inr ⟨hne, o, cap, hv, ho.heap e⟩
theorem HeldC.slice {w : World} {q g sz n : Nat} {v : Value} {vs : List Value} (h : HeldC w q g sz v n vs) : ∃ A cap, v = .slice A n cap ∧ n ≤ cap ∧ vs.length = n * sz := by
  rcases h with ⟨rfl, rfl, rfl, _⟩ | ⟨_, o, cap, rfl, ho⟩
  · exact ⟨_, _, rfl, Nat.le_refl _, by simp⟩
  · exact ⟨_, _, rfl, ho.room, ho.len⟩
theorem HeldC.of_row {w : World} {B q sz n : Nat} {e : TypeId} {v : Value} {vs : List Value} (h : w.ownsRow B e sz v n vs) (hq : q < B) : ∃ g, HeldC w q g sz v n vs ∧ (g = q ∨ B ≤ g) := by
  obtain ⟨hlen, h2⟩ := h
  have h0 : w.ownsRow B e sz v n vs := ⟨hlen, h2⟩
  rcases h2 with ⟨rfl, h3⟩ | ⟨g, cap, cur, rfl, hg, hh, _⟩
  · subst h3
    have : vs = [] := List.length_eq_zero_iff.1 (by rw [hlen]; simp)
    exact ⟨q, .inl ⟨rfl, rfl, this, rfl⟩, .inl rfl⟩
  · exact ⟨g, .inr ⟨by omega, 0, cap, rfl, (ownC_of_row h0).1⟩, .inr hg⟩
/-- cells that can be read at an address below block B -/
def RdC (w : World) (B : Nat) (A : Option Addr) (vs : List Value) : Prop := vs ≠ [] → ∃ b o, A = some ⟨b, o, none⟩ ∧ b < B ∧ ∀ j u, vs[j]? = some u → w.cell? ⟨b, o + j, none⟩ = some u
theorem HeldC.rd {w : World} {q g sz n m cap : Nat} {A : Option Addr} {vs : List Value} (h : HeldC w q g sz (.slice A m cap) n vs) : RdC w w.heap.size A vs ∧ m = n := by
  rcases h with ⟨e, rfl, rfl, _⟩ | ⟨_, o, cap', e, ho⟩
  · injection e with e1 e2 e3
    exact ⟨fun h => absurd rfl h, e2⟩
  · injection e with e1 e2 e3
    subst e1
    exact ⟨fun _ => ⟨g, o, rfl, ho.lt, ho.cell⟩, e2⟩
/-- append to it -/
theorem run_appHC {P : Program} {w : World} (t ty e : TypeId) {i0 : TypeInfo} {z : Value} {sz bytes : Nat} (ht : P.underlying t = some (.slice e)) (hi : P.info? e = some i0) (hz : i0.zero = some z) (hs : i0.size = sz) (hb : i0.bytes = bytes) (hzs : z.cells.size = sz) (hsp : 0 < sz)
    {q g n : Nat} {v : Value} {xs : List Value} (hown : HeldC w q g sz v n xs) (hq : q < w.heap.size) {a : Addr} {m c : Nat} {ys : List Value} (hl : ys.length = m * sz) (hr : ∀ j u, ys[j]? = some u → w.cell? (a.add j) = some u) (h1 : ∀ u ∈ ys, u.oneCell' = true) (h63 : n + m ≤ 1000000) (hby : (n + m) * bytes ≤ 140737488355328) :
    ∃ g' v' w', (Builtin.append_ #[t, t] ty #[v, .slice (some a) m c]).run P w = .ok v' w' ∧ HeldC w' q g' sz v' (n + m) (xs ++ ys) ∧ Only (fun k => k = g ∧ k ≠ q) w w' ∧ (g' = g ∨ w.heap.size ≤ g') := by
  rcases hown with ⟨rfl, rfl, rfl, rfl⟩ | ⟨hne, o, cap, rfl, ho⟩
  · obtain ⟨v', w', hrun, h2, h3, _, _⟩ := run_append_own_at (P := P) w w.heap.size t ty e i0 z sz bytes ht hi hz hs hb hzs hsp (.slice none 0 0) 0 [] ⟨by simp, .inl ⟨rfl, rfl⟩⟩ a m c ys hl hr h1 (by unfold maxLen; omega) (by omega) (Nat.le_refl _)
    obtain ⟨g', h4, h5⟩ := HeldC.of_row (q := g) h2 hq
    exact ⟨g', v', w', hrun, h4, (Only.of_grown h3).more (fun j _ e => by cases e), h5⟩
  · obtain ⟨g', o', cap', w', hrun, h2, h3, h4⟩ := run_appC (P := P) t ty e ht hi hz hs hb hzs hsp ho (c := c) hl hr h1 h63 hby
    refine ⟨g', _, w', hrun, .inr ⟨?_, o', cap', rfl, h2⟩, h3.more (fun j _ e => ⟨e, by omega⟩), h4⟩
    rcases h4 with rfl | h4
    · exact hne
    · omega
theorem wp_appHC {P : Program} {w : World} {o : Oper} {a : Act} {K : Act → World → Prop} {Q : Exit → Act → World → Prop} (s x : Operand) (t e : TypeId) (ho : o.op = .call { callee := .builtin .append, args := #[s, x], argTypes := #[t, t] })
    {i0 : TypeInfo} {z : Value} {sz bytes : Nat} (ht : P.underlying t = some (.slice e)) (hi : P.info? e = some i0) (hz : i0.zero = some z) (hs : i0.size = sz) (hb : i0.bytes = bytes) (hzs : z.cells.size = sz) (hsp : 0 < sz)
    {q g n : Nat} {v : Value} {xs : List Value} (hv : a.eval s = v) (hown : HeldC w q g sz v n xs) (hq : q < w.heap.size) {A : Addr} {m c : Nat} {ys : List Value} (hx : a.eval x = .slice (some A) m c) (hl : ys.length = m * sz) (hr : ∀ j u, ys[j]? = some u → w.cell? (A.add j) = some u) (h1 : ∀ u ∈ ys, u.oneCell' = true) (h63 : n + m ≤ 1000000) (hby : (n + m) * bytes ≤ 140737488355328)
    (h : ∀ g' v' w', HeldC w' q g' sz v' (n + m) (xs ++ ys) → Only (fun k => k = g ∧ k ≠ q) w w' → (g' = g ∨ w.heap.size ≤ g') → K (a.put o.dst v') w') : o.wp P a w K Q := by
  obtain ⟨g', v', w', hrun, h2, h3, h4⟩ := run_appHC (P := P) t o.type e ht hi hz hs hb hzs hsp hown hq (c := c) hl hr h1 h63 hby
  unfold Oper.wp execOp
  simp only [ho, resolve, invoke, builtin, Sem.run_bind, Sem.run_pure, Result.andThen_ok, List.map_toArray, List.map_cons, List.map_nil, hv, hx, hrun]
  exact h g' v' w' h2 h3 h4
/-- append, in a row of operations -/
theorem wpList_appHC {P : Program} {w : World} {ops : Array Oper} {rest : List Oper} {o : Oper} {a : Act} {Q : Exit → Act → World → Prop} (hgd : o.guard = none) (s x : Operand) (t e : TypeId) (ho : o.op = .call { callee := .builtin .append, args := #[s, x], argTypes := #[t, t] })
    {i0 : TypeInfo} {z : Value} {sz bytes : Nat} (ht : P.underlying t = some (.slice e)) (hi : P.info? e = some i0) (hz : i0.zero = some z) (hs : i0.size = sz) (hb : i0.bytes = bytes) (hzs : z.cells.size = sz) (hsp : 0 < sz)
    {q g n : Nat} {v : Value} {xs : List Value} (hv : a.eval s = v) (hown : HeldC w q g sz v n xs) (hq : q < w.heap.size) {A : Addr} {m c : Nat} {ys : List Value} (hx : a.eval x = .slice (some A) m c) (hl : ys.length = m * sz) (hr : ∀ j u, ys[j]? = some u → w.cell? (A.add j) = some u) (h1 : ∀ u ∈ ys, u.oneCell' = true) (h63 : n + m ≤ 1000000) (hby : (n + m) * bytes ≤ 140737488355328)
    (h : ∀ g' v' w', HeldC w' q g' sz v' (n + m) (xs ++ ys) → Only (fun k => k = g ∧ k ≠ q) w w' → (g' = g ∨ w.heap.size ≤ g') → wpList P ops Q rest (a.put o.dst v') w') : wpList P ops Q (o :: rest) a w :=
  wpList_plain hgd fun _ hK => wp_appHC s x t e ho ht hi hz hs hb hzs hsp hv hown hq hx hl hr h1 h63 hby fun g' v' w' h2 h3 h4 => hK _ _ (h g' v' w' h2 h3 h4)
end Go.Proofs.Ytfmhijaljlmgaaa
