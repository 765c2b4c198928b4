/- Bytes of the call's own from any place of a block on: appends to them, cuts of them; what a call may turn. -/
import Derived.Test.YtknolgcbaoppcaaKJA
import Derived.ArgAppend
namespace Go.Proofs.Ytknolgcbaoppcaa
open Go.RowKit

/-- nothing that was there turns, but for the blocks that K names -/
structure Only (K : Nat → Prop) (w w' : World) : Prop where
  os : w'.os = w.os
  tape : w'.tape = w.tape
  output : w'.output = w.output
  size : w.heap.size ≤ w'.heap.size
  block : ∀ k, k < w.heap.size → ¬ K k → w'.heap[k]? = w.heap[k]?
theorem Only.refl (K : Nat → Prop) (w : World) : Only K w w := ⟨rfl, rfl, rfl, Nat.le_refl _, fun _ _ _ => rfl⟩
theorem Only.trans {K L : Nat → Prop} {w w1 w2 : World} (h : Only K w w1) (k : Only L w1 w2) (hL : ∀ j, j < w.heap.size → L j → K j) : Only K w w2 :=
  ⟨k.os.trans h.os, k.tape.trans h.tape, k.output.trans h.output, Nat.le_trans h.size k.size, fun b hb hne => (k.block b (Nat.lt_of_lt_of_le hb h.size) (fun e => hne (hL b hb e))).trans (h.block b hb hne)⟩
theorem Only.more {K L : Nat → Prop} {w w1 : World} (h : Only K w w1) (hL : ∀ j, j < w.heap.size → K j → L j) : Only L w w1 :=
  ⟨h.os, h.tape, h.output, h.size, fun b hb hne => h.block b hb (fun e => hne (hL b hb e))⟩
theorem Only.of_below {K : Nat → Prop} {w w1 : World} (h : Below w.heap.size w w1) : Only K w w1 := ⟨h.os, h.tape, h.output, h.size, fun b hb _ => h.block b hb⟩
theorem Only.below {K : Nat → Prop} {w w1 : World} {B : Nat} (h : Only K w w1) (hB : B ≤ w.heap.size) (hK : ∀ j, K j → B ≤ j) : Below B w w1 :=
  ⟨h.os, h.tape, h.output, h.size, fun b hb => h.block b (by omega) (fun e => by have := hK b e; omega)⟩
theorem Only.of_grown {w w1 : World} {r : Option Nat} (h : w.grownBy w1 r) : Only (fun k => some k = r) w w1 := ⟨h.os, h.tape, h.output, h.size, fun b hb hne => h.block b hb hne⟩
theorem Only.set (w : World) (g i : Nat) (v : Value) : Only (· = g) w (w.setCell ⟨g, i, none⟩ v) := by
  refine ⟨by simp [World.setCell], by simp [World.setCell], by simp [World.setCell], by simp [World.setCell], fun b hb hne => ?_⟩
  have : ¬ g = b := fun e => hne e.symm
  simp [World.setCell, Array.getElem?_modify, this]
theorem Only.sets (g : Nat) : ∀ (vs : List Value) (o : Nat) (w : World), Only (· = g) w (w.setCells g o vs)
  | [], _, w => Only.refl _ w
  | v :: r, o, w => (Only.set w g o v).trans (Only.sets g r (o + 1) _) (fun _ _ h => h)
theorem isSome_sets (b : Nat) : ∀ (vs : List Value) (o : Nat) (w : World) (q : Addr), (w.cell? q).isSome = true → ((w.setCells b o vs).cell? q).isSome = true
  | [], _, _, _, h => h
  | v :: r, o, w, q, h => isSome_sets b r (o + 1) _ q (by
      by_cases e : (⟨b, o, none⟩ : Addr) = q
      · subst e
        obtain ⟨u, hu⟩ := Option.isSome_iff_exists.1 h
        rw [World.cell?_setCell_same _ _ _ hu]; rfl
      · rw [World.cell?_setCell_other _ _ _ _ e]; exact h)

/-- l's bytes are the call's own: in block g from place o on, with room for cap of them -/
structure OwnAt (w : World) (g o cap : Nat) (l : List UInt8) : Prop where
  lt : g < w.heap.size
  room : l.length ≤ cap
  free : ∀ j, j < cap → (w.cell? ⟨g, o + j, none⟩).isSome = true ∧ w.frozen? ⟨g, o + j, none⟩ = false
  cell : ∀ j c, l[j]? = some c → w.cell? ⟨g, o + j, none⟩ = some (.int .u8 (c.toNat : Int))
theorem OwnAt.rd {w : World} {g o cap : Nat} {l : List UInt8} (h : OwnAt w g o cap l) : RdB w w.heap.size (some ⟨g, o, none⟩) l := fun _ => ⟨_, rfl, h.lt, fun j c hj => by rw [Addr.add_lit]; exact h.cell j c hj⟩
theorem OwnAt.keep {w w' : World} {g o cap : Nat} {l : List UInt8} (h : OwnAt w g o cap l) (hs : w.heap.size ≤ w'.heap.size) (hb : w'.heap[g]? = w.heap[g]?) : OwnAt w' g o cap l :=
  ⟨Nat.lt_of_lt_of_le h.lt hs, h.room, fun j hj => by
    rw [World.cell?_of_block (a := ⟨g, o + j, none⟩) hb, World.frozen?_of_block (a := ⟨g, o + j, none⟩) hb]
    exact h.free j hj, fun j c hj => by
    rw [World.cell?_of_block (a := ⟨g, o + j, none⟩) hb]
    exact h.cell j c hj⟩
theorem OwnAt.only {K : Nat → Prop} {w w' : World} {g o cap : Nat} {l : List UInt8} (h : OwnAt w g o cap l) (hO : Only K w w') (hK : ¬ K g) : OwnAt w' g o cap l := h.keep hO.size (hO.block g h.lt hK)
theorem OwnAt.of_own {w : World} {B g cap : Nat} {l : List UInt8} (h : OwnB w B (.slice (some ⟨g, 0, none⟩) l.length cap) l) : OwnAt w g 0 cap l := by
  rcases h.1.2 with ⟨e, _⟩ | ⟨g', cap', cur, e, _, hh, hnc, _, hsz, ht⟩
  · cases e
  · injection e with e1 e2 e3
    injection e1 with e1
    injection e1 with e1
    subst e1 e3
    refine ⟨(Array.getElem?_eq_some_iff.1 hh).1, hnc, fun j hj => ?_, fun j c hj => ?_⟩
    · rw [Nat.zero_add, cell_of_row w g j cur _ (0, 0) hh]
      refine ⟨?_, ?_⟩
      · rw [Array.getElem?_eq_getElem (by omega)]; rfl
      · simp [World.frozen?, hh]
    · have h2 := h.1.cells (g := g) rfl j (.int .u8 (c.toNat : Int)) (by simp [bytesV, hj])
      rw [add_plain] at h2
      rw [Nat.zero_add]; exact h2
theorem OwnAt.drop {w : World} {g o cap : Nat} {l : List UInt8} (h : OwnAt w g o cap l) {k : Nat} (hk : k ≤ l.length) : OwnAt w g (o + k) (cap - k) (l.drop k) := by
  refine ⟨h.lt, by have := h.room; rw [List.length_drop]; omega, fun j hj => ?_, fun j c hj => ?_⟩
  · have := h.free (k + j) (by omega)
    rwa [← Nat.add_assoc] at this
  · rw [List.getElem?_drop] at hj
    have := h.cell _ c hj
    rwa [← Nat.add_assoc] at this
theorem OwnAt.cut {w : World} {g o cap : Nat} {l : List UInt8} (h : OwnAt w g o cap l) {k : Nat} (hk : k ≤ l.length) : OwnAt w g o k (l.take k) := by
  refine ⟨h.lt, by rw [List.length_take]; omega, fun j hj => h.free j (by have := h.room; omega), fun j c hj => ?_⟩
  rw [List.getElem?_take] at hj
  split at hj
  · exact h.cell j c hj
  · cases hj
theorem OwnAt.none_ {w : World} {g o cap : Nat} {l : List UInt8} (h : OwnAt w g o cap l) : OwnAt w g o 0 [] :=
  ⟨h.lt, Nat.le_refl _, fun j hj => absurd hj (Nat.not_lt_zero _), fun j c hj => by simp at hj⟩
/-- append to them, whatever the source -/
theorem run_appO {P : Program} {w : World} (t ty : TypeId) {i0 : TypeInfo} (ht : P.underlying t = some (.slice 5)) (hi : P.info? 5 = some i0) (hz : i0.zero = some (.int .u8 0)) (hs : i0.size = 1) (hb : i0.bytes = 1)
    {g o cap : Nat} {xs : List UInt8} (hown : OwnAt w g o cap xs) {A : Option Addr} {C c : Nat} {ys : List UInt8} (hr : RdB w C A ys) (h63 : xs.length + ys.length ≤ 1000000) :
    ∃ g' o' cap' w', (Builtin.append_ #[t, t] ty #[.slice (some ⟨g, o, none⟩) xs.length cap, .slice A ys.length c]).run P w = .ok (.slice (some ⟨g', o', none⟩) (xs ++ ys).length cap') w' ∧ OwnAt w' g' o' cap' (xs ++ ys) ∧ Only (· = g) w w' ∧ (g' = g ∨ w.heap.size ≤ g') := by
  rcases A with _ | ad
  · have hy : ys = [] := by
      rcases ys with _ | ⟨y, ys⟩
      · rfl
      · obtain ⟨_, h, _⟩ := hr (by simp); cases h
    subst hy
    refine ⟨g, o, cap, w, ?_, by simpa using hown, Only.refl _ _, .inl rfl⟩
    have hnc := hown.room
    simp [Builtin.append_, run_underlying ht, sizeOf, typeInfo, hi, Builtin.lenOf, Builtin.firstCells, hnc, storeCells]
  · have hcells : ∀ j u, (bytesV ys)[j]? = some u → w.cell? (ad.add j) = some u := by
      intro j u hu
      have hn : ys ≠ [] := fun e => by subst e; simp [bytesV] at hu
      obtain ⟨ad', h, _, hc⟩ := hr hn
      injection h with h
      subst h
      simp only [bytesV, List.getElem?_map, Option.map_eq_some_iff] at hu
      obtain ⟨b, hb1, rfl⟩ := hu
      exact hc j b hb1
    have holds : ∀ j u, (bytesV xs)[j]? = some u → w.cell? ((⟨g, o, none⟩ : Addr).add j) = some u := by
      intro j u hu
      simp only [bytesV, List.getElem?_map, Option.map_eq_some_iff] at hu
      obtain ⟨b, hb1, rfl⟩ := hu
      rw [Addr.add_lit]
      exact hown.cell j b hb1
    by_cases hroom : xs.length + ys.length ≤ cap
    · have hrun := run_append_room_cells (P := P) w t ty 5 i0 ht hi g o xs.length cap ad ys.length c (bytesV ys) (by rw [bytesV_len, hs, Nat.mul_one]) hcells (bytesV_one ys) hroom
        (fun j hj => by rw [bytesV_len] at hj; rw [hs, Nat.mul_one, Nat.add_assoc]; exact (hown.free (xs.length + j) (by omega)).1)
        (fun j hj => by rw [bytesV_len] at hj; rw [hs, Nat.mul_one, Nat.add_assoc]; exact (hown.free (xs.length + j) (by omega)).2)
      rw [hs, Nat.mul_one] at hrun
      refine ⟨g, o, cap, _, by rw [List.length_append]; exact hrun, ⟨?_, by rw [List.length_append]; exact hroom, fun j hj => ⟨isSome_sets g _ _ w _ (hown.free j hj).1, by rw [World.frozen?_setCells]; exact (hown.free j hj).2⟩, fun j d hj => ?_⟩, Only.sets g _ _ w, .inl rfl⟩
      · exact Nat.lt_of_lt_of_le hown.lt (Only.sets g _ _ w).size
      · by_cases hlt : j < xs.length
        · rw [World.cell?_setCells_out g _ _ w _ (fun _ _ => .inl (by show o + j < o + xs.length; omega))]
          exact hown.cell j d (by rw [← hj, List.getElem?_append_left hlt])
        · rw [List.getElem?_append_right (by omega)] at hj
          have hjl := (List.getElem?_eq_some_iff.1 hj).1
          have h1 := World.cell?_setCells_in g (bytesV ys) (o + xs.length) w (fun i hi => by
            rw [bytesV_len] at hi
            rw [Nat.add_assoc]
            exact (hown.free (xs.length + i) (by omega)).1) (j - xs.length) (by rw [bytesV_len]; omega)
          rw [show o + xs.length + (j - xs.length) = o + j by omega] at h1
          rw [h1]
          congr 1
          have h2 := (List.getElem?_eq_some_iff.1 hj).2
          simp only [bytesV, List.getElem_map, h2]
    · obtain ⟨v', w', hrun, h1, h2⟩ := run_append_arg_grows (P := P) w t ty 5 i0 (.int .u8 0) 1 1 ht hi hz hs hb rfl (by omega) ⟨g, o, none⟩ xs.length cap (bytesV xs) (by simp [bytesV]) holds ad ys.length c (bytesV ys) (by simp [bytesV]) hcells (by omega) (by unfold maxLen; omega) (by omega)
      rw [← bytesV_app] at h1
      have ho := OwnB.of_row h1
      have hpos : 0 < (xs ++ ys).length := by rw [List.length_append]; omega
      obtain ⟨g', cap', hv, hg⟩ := ho.head hpos
      subst hv
      exact ⟨g', 0, cap', w', hrun, OwnAt.of_own ho, (Only.of_grown h2).more (fun j _ e => by cases e), .inr hg⟩
/-- a slice that is nil, or of the call's own bytes (in block g, which is not p) -/
def HeldAt (w : World) (p g : Nat) (v : Value) (l : List UInt8) : Prop := (v = .slice none 0 0 ∧ l = [] ∧ g = p) ∨ (g ≠ p ∧ ∃ o cap, v = .slice (some ⟨g, o, none⟩) l.length cap ∧ OwnAt w g o cap l)
theorem HeldAt.only {K : Nat → Prop} {w w' : World} {p g : Nat} {v : Value} {l : List UInt8} (h : HeldAt w p g v l) (hO : Only K w w') (hK : g ≠ p → ¬ K g) : HeldAt w' p g v l := by
  rcases h with h | ⟨hne, o, cap, hv, ho⟩
  · exact .inl h
  · exact .inr ⟨hne, o, cap, hv, ho.only hO (hK hne)⟩
theorem HeldAt.of_own {w : World} {B p : Nat} {v : Value} {l : List UInt8} (h : OwnB w B v l) (hB : p < B) : ∃ g, HeldAt w p g v l ∧ (g = p ∨ B ≤ g) := by
  obtain ⟨h1, A, cap, rfl, hc⟩ := h
  rcases h1.2 with ⟨e, h0⟩ | ⟨g, cap', cur, e, hg, hh, hnc, hm, hsz, ht⟩
  · exact ⟨p, .inl ⟨e, List.length_eq_zero_iff.1 h0, rfl⟩, .inl rfl⟩
  · injection e with e1 e2 e3
    subst e1 e3
    exact ⟨g, .inr ⟨by omega, 0, cap, rfl, OwnAt.of_own ⟨h1, _, _, rfl, hc⟩⟩, .inr hg⟩
theorem HeldAt.rd {w : World} {p g : Nat} {A : Option Addr} {n cap : Nat} {l : List UInt8} (h : HeldAt w p g (.slice A n cap) l) : RdB w w.heap.size A l ∧ n = l.length := by
  rcases h with ⟨e, rfl, _⟩ | ⟨_, o, cap', e, ho⟩
  · injection e with e1 e2 e3
    exact ⟨RdB.nil _ _ _, e2⟩
  · injection e with e1 e2 e3
    subst e1
    exact ⟨ho.rd, e2⟩
/-- append to it -/
theorem run_appH {P : Program} {w : World} (t ty : TypeId) {i0 : TypeInfo} (ht : P.underlying t = some (.slice 5)) (hi : P.info? 5 = some i0) (hz : i0.zero = some (.int .u8 0)) (hs : i0.size = 1) (hb : i0.bytes = 1)
    {p g : Nat} {v : Value} {xs : List UInt8} (hown : HeldAt w p g v xs) (hp : p < w.heap.size) {A : Option Addr} {C c : Nat} {ys : List UInt8} (hr : RdB w C A ys) (h63 : xs.length + ys.length ≤ 1000000) :
    ∃ g' v' w', (Builtin.append_ #[t, t] ty #[v, .slice A ys.length c]).run P w = .ok v' w' ∧ HeldAt w' p g' v' (xs ++ ys) ∧ Only (fun k => k = g ∧ k ≠ p) w w' ∧ (g' = g ∨ w.heap.size ≤ g') := by
  rcases hown with ⟨rfl, rfl, rfl⟩ | ⟨hne, o, cap, rfl, ho⟩
  · obtain ⟨v', w', hrun, h1, h2⟩ := run_appendB (P := P) t ty ht hi hz hs hb (OwnB.nil w w.heap.size) (c := c) hr h63 (Nat.le_refl _)
    obtain ⟨g', h3, h4⟩ := HeldAt.of_own (p := g) h1 hp
    exact ⟨g', v', w', hrun, h3, (Only.of_grown h2.by_).more (fun j _ e => by cases e), h4⟩
  · obtain ⟨g', o', cap', w', hrun, h1, h2, h3⟩ := run_appO (P := P) t ty ht hi hz hs hb ho (c := c) hr h63
    refine ⟨g', _, w', hrun, .inr ⟨?_, o', cap', rfl, h1⟩, h2.more (fun j _ e => ⟨e, by omega⟩), h3⟩
    rcases h3 with rfl | h3
    · exact hne
    · omega
theorem wp_appH {P : Program} {w : World} {o : Oper} {a : Act} {K : Act → World → Prop} {Q : Exit → Act → World → Prop} (s x : Operand) (t : TypeId) (ho : o.op = .call { callee := .builtin .append, args := #[s, x], argTypes := #[t, t] })
    {i0 : TypeInfo} (ht : P.underlying t = some (.slice 5)) (hi : P.info? 5 = some i0) (hz : i0.zero = some (.int .u8 0)) (hs : i0.size = 1) (hb : i0.bytes = 1)
    {p g : Nat} {v : Value} {xs : List UInt8} (hv : a.eval s = v) (hown : HeldAt w p g v xs) (hp : p < w.heap.size) {A : Option Addr} {C c n : Nat} {ys : List UInt8} (hx : a.eval x = .slice A n c) (hn : ys.length = n) (hr : RdB w C A ys) (h63 : xs.length + ys.length ≤ 1000000)
    (h : ∀ g' v' w', HeldAt w' p g' v' (xs ++ ys) → Only (fun k => k = g ∧ k ≠ p) w w' → (g' = g ∨ w.heap.size ≤ g') → K (a.put o.dst v') w') : o.wp P a w K Q := by
  subst hn
  obtain ⟨g', v', w', hrun, h2, h3, h4⟩ := run_appH (P := P) t o.type ht hi hz hs hb hown hp (c := c) hr h63
  unfold Oper.wp execOp
  simp only [ho, resolve, invoke, builtin, Sem.run_bind, Sem.run_pure, Result.andThen_ok, List.map_toArray, List.map_cons, List.map_nil, hv, hx, hrun]
  exact h g' v' w' h2 h3 h4
/-- append, in a row of operations -/
theorem wpList_appH {P : Program} {w : World} {ops : Array Oper} {rest : List Oper} {o : Oper} {a : Act} {Q : Exit → Act → World → Prop} (hgd : o.guard = none) (s x : Operand) (t : TypeId) (ho : o.op = .call { callee := .builtin .append, args := #[s, x], argTypes := #[t, t] })
    {i0 : TypeInfo} (ht : P.underlying t = some (.slice 5)) (hi : P.info? 5 = some i0) (hz : i0.zero = some (.int .u8 0)) (hs : i0.size = 1) (hb : i0.bytes = 1)
    {p g : Nat} {v : Value} {xs : List UInt8} (hv : a.eval s = v) (hown : HeldAt w p g v xs) (hp : p < w.heap.size) {A : Option Addr} {C c n : Nat} {ys : List UInt8} (hx : a.eval x = .slice A n c) (hn : ys.length = n) (hr : RdB w C A ys) (h63 : xs.length + ys.length ≤ 1000000)
    (h : ∀ g' v' w', HeldAt w' p g' v' (xs ++ ys) → Only (fun k => k = g ∧ k ≠ p) w w' → (g' = g ∨ w.heap.size ≤ g') → wpList P ops Q rest (a.put o.dst v') w') : wpList P ops Q (o :: rest) a w :=
  wpList_plain hgd fun _ hK => wp_appH s x t ho ht hi hz hs hb hv hown hp hx hn hr h63 fun g' v' w' h2 h3 h4 => hK _ _ (h g' v' w' h2 h3 h4)
end Go.Proofs.Ytknolgcbaoppcaa
