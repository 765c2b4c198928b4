/- Bytes of the call's own from any place of a block on: appends to them, cuts of them; what a call may turn. -/
import Derived.Test.YtogogekmodbdiaaKJA
import Derived.ArgAppend
import Derived.Lib.SlBytesConst
import Derived.Test.YtogogekmodbdiaaKW
namespace Go.Proofs.Ytogogekmodbdiaa
section
open Go.RowKit

/-- nothing that was there turns, but for the blocks that K names -/
structure Only (K : Nat → Prop) (w w' : World) : Prop where
  os : w'.os = w.os
  tape : w'.tape = w.tape
  output : w'.output = w.output
  size : w.heap.size ≤ w'.heap.size
  block : ∀ k, k < w.heap.size → ¬ K k → w'.heap[k]? = w.heap[k]?
theorem Only.refl (K : Nat → Prop) (w : World) : Only K w w := ⟨rfl, rfl, rfl, Nat.le_refl _, fun _ _ _ => rfl⟩
theorem Only.trans {K L : Nat → Prop} {w w1 w2 : World} (h : Only K w w1) (k : Only L w1 w2) (hL : ∀ j, j < w.heap.size → L j → K j) : Only K w w2 :=
  ⟨k.os.trans h.os, k.tape.trans h.tape, k.output.trans h.output, Nat.le_trans h.size k.size, fun b hb hne => (k.block b (Nat.lt_of_lt_of_le hb h.size) (fun e => hne (hL b hb e))).trans (h.block b hb hne)⟩
theorem Only.more {K L : Nat → Prop} {w w1 : World} (h : Only K w w1) (hL : ∀ j, j < w.heap.size → K j → L j) : Only L w w1 :=
  ⟨h.os, h.tape, h.output, h.size, fun b hb hne => h.block b hb (fun e => hne (hL b hb e))⟩
theorem Only.of_below {K : Nat → Prop} {w w1 : World} (h : Below w.heap.size w w1) : Only K w w1 := ⟨h.os, h.tape, h.output, h.size, fun b hb _ => h.block b hb⟩
theorem Only.below {K : Nat → Prop} {w w1 : World} {B : Nat} (h : Only K w w1) (hB : B ≤ w.heap.size) (hK : ∀ j, K j → B ≤ j) : Below B w w1 :=
  ⟨h.os, h.tape, h.output, h.size, fun b hb => h.block b (by omega) (fun e => by have := hK b e; omega)⟩
theorem Only.of_grown {w w1 : World} {r : Option Nat} (h : w.grownBy w1 r) : Only (fun k => some k = r) w w1 := ⟨h.os, h.tape, h.output, h.size, fun b hb hne => h.block b hb hne⟩
theorem Only.set (w : World) (g i : Nat) (v : Value) : Only (· = g) w (w.setCell ⟨g, i, none⟩ v) := by
  refine ⟨by simp [World.setCell], by simp [World.setCell], by simp [World.setCell], by simp [World.setCell], fun b hb hne => ?_⟩
  have : ¬ g = b := fun e => hne e.symm
  simp [World.setCell, Array.getElem?_modify, this]
theorem Only.sets (g : Nat) : ∀ (vs : List Value) (o : Nat) (w : World), Only (· = g) w (w.setCells g o vs)
  | [], _, w => Only.refl _ w
  | v :: r, o, w => (Only.set w g o v).trans (Only.sets g r (o + 1) _) (fun _ _ h => h)
theorem isSome_sets (b : Nat) : ∀ (vs : List Value) (o : Nat) (w : World) (q : Addr), (w.cell? q).isSome = true → ((w.setCells b o vs).cell? q).isSome = true
  | [], _, _, _, h => h
  | v :: r, o, w, q, h => isSome_sets b r (o + 1) _ q (by
      by_cases e : (⟨b, o, none⟩ : Addr) = q
      · subst e
        obtain ⟨u, hu⟩ := Option.isSome_iff_exists.1 h
        rw [World.cell?_setCell_same _ _ _ hu]; rfl
      · rw [World.cell?_setCell_other _ _ _ _ e]; exact h)

/-- l's bytes are the call's own: in block g from place o on, with room for cap of them -/
structure OwnAt (w : World) (g o cap : Nat) (l : List UInt8) : Prop where
  lt : g < w.heap.size
  room : l.length ≤ cap
  free : ∀ j, j < cap → (w.cell? ⟨g, o + j, none⟩).isSome = true ∧ w.frozen? ⟨g, o + j, none⟩ = false
  cell : ∀ j c, l[j]? = some c → w.cell? ⟨g, o + j, none⟩ = some (.int .u8 (c.toNat : Int))
theorem OwnAt.rd {w : World} {g o cap : Nat} {l : List UInt8} (h : OwnAt w g o cap l) : RdB w w.heap.size (some ⟨g, o, none⟩) l := fun _ => ⟨_, rfl, h.lt, fun j c hj => by rw [Addr.add_lit]; exact h.cell j c hj⟩
theorem OwnAt.keep {w w' : World} {g o cap : Nat} {l : List UInt8} (h : OwnAt w g o cap l) (hs : w.heap.size ≤ w'.heap.size) (hb : w'.heap[g]? = w.heap[g]?) : OwnAt w' g o cap l :=
  ⟨Nat.lt_of_lt_of_le h.lt hs, h.room, fun j hj => by
    rw [World.cell?_of_block (a := ⟨g, o + j, none⟩) hb, World.frozen?_of_block (a := ⟨g, o + j, none⟩) hb]
    exact h.free j hj, fun j c hj => by
    rw [World.cell?_of_block (a := ⟨g, o + j, none⟩) hb]
    exact h.cell j c hj⟩
theorem OwnAt.only {K : Nat → Prop} {w w' : World} {g o cap : Nat} {l : List UInt8} (h : OwnAt w g o cap l) (hO : Only K w w') (hK : ¬ K g) : OwnAt w' g o cap l := h.keep hO.size (hO.block g h.lt hK)
theorem OwnAt.of_own {w : World} {B g cap : Nat} {l : List UInt8} (h : OwnB w B (.slice (some ⟨g, 0, none⟩) l.length cap) l) : OwnAt w g 0 cap l := by
  rcases h.1.2 with ⟨e, _⟩ | ⟨g', cap', cur, e, _, hh, hnc, _, hsz, ht⟩
  · cases e
  · injection e with e1 e2 e3
    injection e1 with e1
    injection e1 with e1
    subst e1 e3
    refine ⟨(Array.getElem?_eq_some_iff.1 hh).1, hnc, fun j hj => ?_, fun j c hj => ?_⟩
    · rw [Nat.zero_add, cell_of_row w g j cur _ (0, 0) hh]
      refine ⟨?_, ?_⟩
      · rw [Array.getElem?_eq_getElem (by omega)]; rfl
      · simp [World.frozen?, hh]
    · have h2 := h.1.cells (g := g) rfl j (.int .u8 (c.toNat : Int)) (by simp [bytesV, hj])
      rw [add_plain] at h2
      rw [Nat.zero_add]; exact h2
theorem OwnAt.drop {w : World} {g o cap : Nat} {l : List UInt8} (h : OwnAt w g o cap l) {k : Nat} (hk : k ≤ l.length) : OwnAt w g (o + k) (cap - k) (l.drop k) := by
  refine ⟨h.lt, by have := h.room; rw [List.length_drop]; omega, fun j hj => ?_, fun j c hj => ?_⟩
  · have := h.free (k + j) (by omega)
    rwa [← Nat.add_assoc] at this
  · rw [List.getElem?_drop] at hj
    have := h.cell _ c hj
    rwa [← Nat.add_assoc] at this
theorem OwnAt.cut {w : World} {g o cap : Nat} {l : List UInt8} (h : OwnAt w g o cap l) {k : Nat} (hk : k ≤ l.length) : OwnAt w g o k (l.take k) := by
  refine ⟨h.lt, by rw [List.length_take]; omega, fun j hj => h.free j (by have := h.room; omega), fun j c hj => ?_⟩
  rw [List.getElem?_take] at hj
  split at hj
  · exact h.cell j c hj
  · cases hj
theorem OwnAt.none_ {w : World} {g o cap : Nat} {l : List UInt8} (h : OwnAt w g o cap l) : OwnAt w g o 0 [] :=
  ⟨h.lt, Nat.le_refl _, fun j hj => absurd hj (Nat.not_lt_zero _), fun j c hj => by simp at hj⟩
/-- append to them, whatever the source -/
theorem run_appO {P : Program} {w : World} (t ty : TypeId) {i0 : TypeInfo} (ht : P.underlying t = some (.slice 5)) (hi : P.info? 5 = some i0) (hz : i0.zero = some (.int .u8 0)) (hs : i0.size = 1) (hb : i0.bytes = 1)
    {g o cap : Nat} {xs : List UInt8} (hown : OwnAt w g o cap xs) {A : Option Addr} {C c : Nat} {ys : List UInt8} (hr : RdB w C A ys) (h63 : xs.length + ys.length ≤ 1000000) :
    ∃ g' o' cap' w', (Builtin.append_ #[t, t] ty #[.slice (some ⟨g, o, none⟩) xs.length cap, .slice A ys.length c]).run P w = .ok (.slice (some ⟨g', o', none⟩) (xs ++ ys).length cap') w' ∧ OwnAt w' g' o' cap' (xs ++ ys) ∧ Only (· = g) w w' ∧ (g' = g ∨ w.heap.size ≤ g') := by
  rcases A with _ | ad
  · have hy : ys = [] := by
      rcases ys with _ | ⟨y, ys⟩
      · rfl
      · obtain ⟨_, h, _⟩ := hr (by simp); cases h
    subst hy
    refine ⟨g, o, cap, w, ?_, by simpa using hown, Only.refl _ _, .inl rfl⟩
    have hnc := hown.room
    simp [Builtin.append_, run_underlying ht, sizeOf, typeInfo, hi, Builtin.lenOf, Builtin.firstCells, hnc, storeCells]
  · have hcells : ∀ j u, (bytesV ys)[j]? = some u → w.cell? (ad.add j) = some u := by
      intro j u hu
      have hn : ys ≠ [] := fun e => by subst e; simp [bytesV] at hu
      obtain ⟨ad', h, _, hc⟩ := hr hn
      injection h with h
      subst h
      simp only [bytesV, List.getElem?_map, Option.map_eq_some_iff] at hu
      obtain ⟨b, hb1, rfl⟩ := hu
      exact hc j b hb1
    have holds : ∀ j u, (bytesV xs)[j]? = some u → w.cell? ((⟨g, o, none⟩ : Addr).add j) = some u := by
      intro j u hu
      simp only [bytesV, List.getElem?_map, Option.map_eq_some_iff] at hu
      obtain ⟨b, hb1, rfl⟩ := hu
      rw [Addr.add_lit]
      exact hown.cell j b hb1
    by_cases hroom : xs.length + ys.length ≤ cap
    · have hrun := run_append_room_cells (P := P) w t ty 5 i0 ht hi g o xs.length cap ad ys.length c (bytesV ys) (by rw [bytesV_len, hs, Nat.mul_one]) hcells (bytesV_one ys) hroom
        (fun j hj => by rw [bytesV_len] at hj; rw [hs, Nat.mul_one, Nat.add_assoc]; exact (hown.free (xs.length + j) (by omega)).1)
        (fun j hj => by rw [bytesV_len] at hj; rw [hs, Nat.mul_one, Nat.add_assoc]; exact (hown.free (xs.length + j) (by omega)).2)
      rw [hs, Nat.mul_one] at hrun
      refine ⟨g, o, cap, _, by rw [List.length_append]; exact hrun, ⟨?_, by rw [List.length_append]; exact hroom, fun j hj => ⟨isSome_sets g _ _ w _ (hown.free j hj).1, by rw [World.frozen?_setCells]; exact (hown.free j hj).2⟩, fun j d hj => ?_⟩, Only.sets g _ _ w, .inl rfl⟩
      · exact Nat.lt_of_lt_of_le hown.lt (Only.sets g _ _ w).size
      · by_cases hlt : j < xs.length
        · rw [World.cell?_setCells_out g _ _ w _ (fun _ _ => .inl (by show o + j < o + xs.length; omega))]
          exact hown.cell j d (by rw [← hj, List.getElem?_append_left hlt])
        · rw [List.getElem?_append_right (by omega)] at hj
          have hjl := (List.getElem?_eq_some_iff.1 hj).1
          have h1 := World.cell?_setCells_in g (bytesV ys) (o + xs.length) w (fun i hi => by
            rw [bytesV_len] at hi
            rw [Nat.add_assoc]
            exact (hown.free (xs.length + i) (by omega)).1) (j - xs.length) (by rw [bytesV_len]; omega)
          rw [show o + xs.length + (j - xs.length) = o + j by omega] at h1
          rw [h1]
          congr 1
          have h2 := (List.getElem?_eq_some_iff.1 hj).2
          simp only [bytesV, List.getElem_map, h2]
    · obtain ⟨v', w', hrun, h1, h2⟩ := run_append_arg_grows (P := P) w t ty 5 i0 (.int .u8 0) 1 1 ht hi hz hs hb rfl (by omega) ⟨g, o, none⟩ xs.length cap (bytesV xs) (by simp [bytesV]) holds ad ys.length c (bytesV ys) (by simp [bytesV]) hcells (by omega) (by unfold maxLen; omega) (by omega)
      rw [← bytesV_app] at h1
      have ho := OwnB.of_row h1
      have hpos : 0 < (xs ++ ys).length := by rw [List.length_append]; omega
      obtain ⟨g', cap', hv, hg⟩ := ho.head hpos
      subst hv
      exact ⟨g', 0, cap', w', hrun, OwnAt.of_own ho, (Only.of_grown h2).more (fun j _ e => by cases e), .inr hg⟩
/-- a slice that is nil, or of the call's own bytes (in block g, which is not p) -/
def HeldAt (w : World) (p g : Nat) (v : Value) (l : List UInt8) : Prop := (v = .slice none 0 0 ∧ l = [] ∧ g = p) ∨ (g ≠ p ∧ ∃ o cap, v = .slice (some ⟨g, o, none⟩) l.length cap ∧ OwnAt w g o cap l)
theorem HeldAt.only {K : Nat → Prop} {w w' : World} {p g : Nat} {v : Value} {l : List UInt8} (h : HeldAt w p g v l) (hO : Only K w w') (hK : g ≠ p → ¬ K g) : HeldAt w' p g v l := by
  rcases h with h | ⟨hne, o, cap, hv, ho⟩
  · exact .inl h
  · exact .inr ⟨hne, o, cap, hv, ho.only hO (hK hne)⟩
theorem HeldAt.of_own {w : World} {B p : Nat} {v : Value} {l : List UInt8} (h : OwnB w B v l) (hB : p < B) : ∃ g, HeldAt w p g v l ∧ (g = p ∨ B ≤ g) := by
  obtain ⟨h1, A, cap, rfl, hc⟩ := h
  rcases h1.2 with ⟨e, h0⟩ | ⟨g, cap', cur, e, hg, hh, hnc, hm, hsz, ht⟩
  · exact ⟨p, .inl ⟨e, List.length_eq_zero_iff.1 h0, rfl⟩, .inl rfl⟩
  · injection e with e1 e2 e3
    subst e1 e3
    exact ⟨g, .inr ⟨by omega, 0, cap, rfl, OwnAt.of_own ⟨h1, _, _, rfl, hc⟩⟩, .inr hg⟩
theorem HeldAt.rd {w : World} {p g : Nat} {A : Option Addr} {n cap : Nat} {l : List UInt8} (h : HeldAt w p g (.slice A n cap) l) : RdB w w.heap.size A l ∧ n = l.length := by
  rcases h with ⟨e, rfl, _⟩ | ⟨_, o, cap', e, ho⟩
  · injection e with e1 e2 e3
    exact ⟨RdB.nil _ _ _, e2⟩
  · injection e with e1 e2 e3
    subst e1
    exact ⟨ho.rd, e2⟩
/-- append to it -/
theorem run_appH {P : Program} {w : World} (t ty : TypeId) {i0 : TypeInfo} (ht : P.underlying t = some (.slice 5)) (hi : P.info? 5 = some i0) (hz : i0.zero = some (.int .u8 0)) (hs : i0.size = 1) (hb : i0.bytes = 1)
    {p g : Nat} {v : Value} {xs : List UInt8} (hown : HeldAt w p g v xs) (hp : p < w.heap.size) {A : Option Addr} {C c : Nat} {ys : List UInt8} (hr : RdB w C A ys) (h63 : xs.length + ys.length ≤ 1000000) :
    ∃ g' v' w', (Builtin.append_ #[t, t] ty #[v, .slice A ys.length c]).run P w = .ok v' w' ∧ HeldAt w' p g' v' (xs ++ ys) ∧ Only (fun k => k = g ∧ k ≠ p) w w' ∧ (g' = g ∨ w.heap.size ≤ g') := by
  rcases hown with ⟨rfl, rfl, rfl⟩ | ⟨hne, o, cap, rfl, ho⟩
  · obtain ⟨v', w', hrun, h1, h2⟩ := run_appendB (P := P) t ty ht hi hz hs hb (OwnB.nil w w.heap.size) (c := c) hr h63 (Nat.le_refl _)
    obtain ⟨g', h3, h4⟩ := HeldAt.of_own (p := g) h1 hp
    exact ⟨g', v', w', hrun, h3, (Only.of_grown h2.by_).more (fun j _ e => by cases e), h4⟩
  · obtain ⟨g', o', cap', w', hrun, h1, h2, h3⟩ := run_appO (P := P) t ty ht hi hz hs hb ho (c := c) hr h63
    refine ⟨g', _, w', hrun, .inr ⟨?_, o', cap', rfl, h1⟩, h2.more (fun j _ e => ⟨e, by omega⟩), h3⟩
    rcases h3 with rfl | h3
    · exact hne
    · omega
theorem wp_appH {P : Program} {w : World} {o : Oper} {a : Act} {K : Act → World → Prop} {Q : Exit → Act → World → Prop} (s x : Operand) (t : TypeId) (ho : o.op = .call { callee := .builtin .append, args := #[s, x], argTypes := #[t, t] })
    {i0 : TypeInfo} (ht : P.underlying t = some (.slice 5)) (hi : P.info? 5 = some i0) (hz : i0.zero = some (.int .u8 0)) (hs : i0.size = 1) (hb : i0.bytes = 1)
    {p g : Nat} {v : Value} {xs : List UInt8} (hv : a.eval s = v) (hown : HeldAt w p g v xs) (hp : p < w.heap.size) {A : Option Addr} {C c n : Nat} {ys : List UInt8} (hx : a.eval x = .slice A n c) (hn : ys.length = n) (hr : RdB w C A ys) (h63 : xs.length + ys.length ≤ 1000000)
    (h : ∀ g' v' w', HeldAt w' p g' v' (xs ++ ys) → Only (fun k => k = g ∧ k ≠ p) w w' → (g' = g ∨ w.heap.size ≤ g') → K (a.put o.dst v') w') : o.wp P a w K Q := by
  subst hn
  obtain ⟨g', v', w', hrun, h2, h3, h4⟩ := run_appH (P := P) t o.type ht hi hz hs hb hown hp (c := c) hr h63
  unfold Oper.wp execOp
  simp only [ho, resolve, invoke, builtin, Sem.run_bind, Sem.run_pure, Result.andThen_ok, List.map_toArray, List.map_cons, List.map_nil, hv, hx, hrun]
  exact h g' v' w' h2 h3 h4
/-- append, in a row of operations -/
theorem wpList_appH {P : Program} {w : World} {ops : Array Oper} {rest : List Oper} {o : Oper} {a : Act} {Q : Exit → Act → World → Prop} (hgd : o.guard = none) (s x : Operand) (t : TypeId) (ho : o.op = .call { callee := .builtin .append, args := #[s, x], argTypes := #[t, t] })
    {i0 : TypeInfo} (ht : P.underlying t = some (.slice 5)) (hi : P.info? 5 = some i0) (hz : i0.zero = some (.int .u8 0)) (hs : i0.size = 1) (hb : i0.bytes = 1)
    {p g : Nat} {v : Value} {xs : List UInt8} (hv : a.eval s = v) (hown : HeldAt w p g v xs) (hp : p < w.heap.size) {A : Option Addr} {C c n : Nat} {ys : List UInt8} (hx : a.eval x = .slice A n c) (hn : ys.length = n) (hr : RdB w C A ys) (h63 : xs.length + ys.length ≤ 1000000)
    (h : ∀ g' v' w', HeldAt w' p g' v' (xs ++ ys) → Only (fun k => k = g ∧ k ≠ p) w w' → (g' = g ∨ w.heap.size ≤ g') → wpList P ops Q rest (a.put o.dst v') w') : wpList P ops Q (o :: rest) a w :=
  wpList_plain hgd fun _ hK => wp_appH s x t ho ht hi hz hs hb hv hown hp hx hn hr h63 fun g' v' w' h2 h3 h4 => hK _ _ (h g' v' w' h2 h3 h4)
end

section
open Go.RowKit

/-- a disk: its bytes l stand from the offset b on, those ahead of s are safe -/
structure Dk (w : World) (B p g b s : Nat) (l : List UInt8) : Prop where
  box : ∃ A cap, w.heap[p]? = some (.cells #[.int .i64 (b : Int), .int .i64 (s : Int), .slice A l.length cap] 58 (0, 0)) ∧ HeldAt w p g (.slice A l.length cap) l
  ge : B ≤ p ∧ B ≤ g
  bs : b ≤ s
  se : s ≤ b + l.length
  small : b + l.length ≤ 100000
theorem Dk.lt {w : World} {B p g b s : Nat} {l : List UInt8} (h : Dk w B p g b s l) : p < w.heap.size := by
  obtain ⟨A, cap, h1, _⟩ := h.box
  exact (Array.getElem?_eq_some_iff.1 h1).1
theorem Dk.only {K : Nat → Prop} {w w' : World} {B p g b s : Nat} {l : List UInt8} (h : Dk w B p g b s l) (hO : Only K w w') (hp : ¬ K p) (hg : ¬ K g) : Dk w' B p g b s l := by
  obtain ⟨A, cap, h1, h2⟩ := h.box
  exact ⟨⟨A, cap, (hO.block p h.lt hp).trans h1, h2.only hO (fun _ => hg)⟩, h.ge, h.bs, h.se, h.small⟩
theorem Dk.below {w w' : World} {B p g b s : Nat} {l : List UInt8} (h : Dk w B p g b s l) (hb : Below w.heap.size w w') : Dk w' B p g b s l := h.only (Only.of_below (K := fun _ => False) hb) id id
theorem Dk.more {w : World} {B C p g b s : Nat} {l : List UInt8} (h : Dk w B p g b s l) (hC : C ≤ B) : Dk w C p g b s l := ⟨h.box, ⟨Nat.le_trans hC h.ge.1, Nat.le_trans hC h.ge.2⟩, h.bs, h.se, h.small⟩
theorem free3 {w : World} {b : Nat} {x y z : Value} {t : TypeId} (h : w.heap[b]? = some (.cells #[x, y, z] t (0, 0))) (i : Nat) : w.frozen? ⟨b, i, none⟩ = false := by simp [World.frozen?, h]
/-- what New answers -/
def NewT (w : World) (e : Ending) (w' : World) : Prop := ∃ p, e = .returned (.pointer (some ⟨p, 0, none⟩)) ∧ Dk w' w.heap.size p p 0 0 [] ∧ Below w.heap.size w w'
theorem dk_new (w : World) : NewT w (.returned (.pointer (some ⟨w.heap.size, 0, none⟩))) (w.alloc (.cells #[.int .i64 0, .int .i64 0, .slice none 0 0] 58)) :=
  ⟨_, rfl, ⟨⟨none, 0, heap_alloc_new w _, .inl ⟨rfl, rfl, rfl⟩⟩, ⟨Nat.le_refl _, Nat.le_refl _⟩, Nat.le_refl _, Nat.le_refl _, by simp⟩, alloc_below w _⟩
set_option maxRecDepth 100000 in
theorem new_any (w : World) : Calls Try.prog 6 #[] w (NewT w) := by
  go_enter Try.func6, Try.ntmps6
  go_wp2_with fail
  go_ret
  exact dk_new w
theorem HeldAt.heap {w w' : World} {p g : Nat} {v : Value} {l : List UInt8} (h : HeldAt w p g v l) (e : w'.heap = w.heap) : HeldAt w' p g v l := by
  rcases h with h | ⟨hne, o, cap', hv, ho⟩
  · exact .inl h
  · exact .inr ⟨hne, o, cap', hv, ho.keep (by rw [e]; exact Nat.le_refl _) (by rw [e])⟩
theorem Dk.heap {w w' : World} {B p g b s : Nat} {l : List UInt8} (h : Dk w B p g b s l) (e : w'.heap = w.heap) : Dk w' B p g b s l := by
  obtain ⟨A, cap, h1, h2⟩ := h.box
  exact ⟨⟨A, cap, by rw [e]; exact h1, h2.heap e⟩, h.ge, h.bs, h.se, h.small⟩
/-- a call that only looks, and may draw -/
def LooksN (v : Value) (w : World) : Ending → World → Prop := fun e w' => e = .returned v ∧ ∃ n, w' = w.drewN n
/-- a call that only looks -/
def Looks (v : Value) (w : World) : Ending → World → Prop := fun e w' => e = .returned v ∧ w = w'
set_option maxRecDepth 100000 in
theorem begin_any {w : World} {B p g b s : Nat} {l : List UInt8} (h : Dk w B p g b s l) : Calls Try.prog 54 #[.pointer (some ⟨p, 0, none⟩)] w (Looks (.int .i64 (b : Int)) w) := by
  obtain ⟨A, cap, h1, _⟩ := h.box
  obtain ⟨x0, x1, x2⟩ := box3 h1
  clear h1 h
  go_enter Try.func54, Try.ntmps54
  go_wp2_with fail
  go_ret
  exact ⟨rfl, rfl⟩
set_option maxRecDepth 100000 in
theorem safe_any {w : World} {B p g b s : Nat} {l : List UInt8} (h : Dk w B p g b s l) : Calls Try.prog 22 #[.pointer (some ⟨p, 0, none⟩)] w (Looks (.int .i64 (s : Int)) w) := by
  obtain ⟨A, cap, h1, _⟩ := h.box
  obtain ⟨x0, x1, x2⟩ := box3 h1
  clear h1 h
  go_enter Try.func22, Try.ntmps22
  go_wp2_with fail
  go_ret
  exact ⟨rfl, rfl⟩
set_option maxRecDepth 100000 in
theorem end_any {w : World} {B p g b s : Nat} {l : List UInt8} (h : Dk w B p g b s l) : Calls Try.prog 21 #[.pointer (some ⟨p, 0, none⟩)] w (LooksN (.int .i64 ((b + l.length : Nat) : Int)) w) := by
  obtain ⟨A, cap, h1, _⟩ := h.box
  obtain ⟨x0, x1, x2⟩ := box3 h1
  have hbi : (b : Int) ≤ 100000 := by have := h.small; omega
  have hli : (l.length : Int) ≤ 100000 := by have := h.small; omega
  clear h1 h
  go_enter Try.func21, Try.ntmps21
  go_wp2_with fail
  go_quiet (fail)
  go_wp2_with fail
  go_ret
  exact ⟨by simp, _, rfl⟩
/-- what a call with an error alone answers of a disk -/
def DkT (w : World) (B p g b s : Nat) (l : List UInt8) (r : Value) (e : Ending) (w' : World) : Prop := e = .returned r ∧ Dk w' B p g b s l ∧ Only (fun k => k = p) w w'
theorem dk_safe {w : World} {B p g b s : Nat} {l : List UInt8} (h : Dk w B p g b s l) : Dk (w.setCell ⟨p, 1, none⟩ (.int .i64 ((b + l.length : Nat) : Int))) B p g b (b + l.length) l := by
  obtain ⟨A, cap, h1, h2⟩ := h.box
  refine ⟨⟨A, cap, ?_, ?_⟩, h.ge, Nat.le_add_right _ _, Nat.le_refl _, h.small⟩
  · simp [World.setCell, Array.getElem?_modify, h1]
  · exact h2.only (Only.set w p 1 _) (fun hne => hne)
set_option maxRecDepth 100000 in
theorem sync_any {w : World} {B p g b s : Nat} {l : List UInt8} (h : Dk w B p g b s l) : Calls Try.prog 58 #[.pointer (some ⟨p, 0, none⟩)] w (DkT w B p g b (b + l.length) l (.int .i64 0)) := by
  have HE := Lib.hid (end_any h)
  have HY := Lib.hid (fun n => And.intro (dk_safe (h.below (drewN_below w n))) ((Only.of_below (drewN_below w n)).trans (Only.set (w.drewN n) p 1 (.int .i64 ((b + l.length : Nat) : Int))) (fun _ _ e => e)))
  obtain ⟨A, cap, h1, _⟩ := h.box
  obtain ⟨x0, x1, x2⟩ := box3 h1
  have z1 := free3 h1 1
  clear h1 h
  go_enter Try.func58, Try.ntmps58
  go_wp2_with (go_at_call 21; refine HE.out.mono ?_; rintro e w2 ⟨rfl, n, rfl⟩)
  go_ret
  exact ⟨rfl, HY.out _⟩
end

section
open Go.RowKit

theorem HeldAt.slice {w : World} {p g : Nat} {v : Value} {l : List UInt8} (h : HeldAt w p g v l) : ∃ A cap, v = .slice A l.length cap := by
  rcases h with ⟨rfl, rfl, _⟩ | ⟨_, o, cap, rfl, _⟩
  · exact ⟨_, _, rfl⟩
  · exact ⟨_, _, rfl⟩
theorem Dk.dlt {w : World} {B p g b s : Nat} {l : List UInt8} (h : Dk w B p g b s l) : g < w.heap.size := by
  have := h.lt
  obtain ⟨A, cap, _, h2⟩ := h.box
  rcases h2 with ⟨_, _, rfl⟩ | ⟨_, _, _, _, ho⟩
  · exact this
  · exact ho.lt
/-- what Append answers where there is room -/
def DkA (w : World) (B p g b s : Nat) (l ys : List UInt8) (e : Ending) (w' : World) : Prop :=
  e = .returned (.tuple #[.int .i64 ((b + l.length : Nat) : Int), .int .i64 0]) ∧ ∃ g', Dk w' B p g' b s (l ++ ys) ∧ Only (fun k => k = p ∨ k = g) w w' ∧ (g' = g ∨ w.heap.size ≤ g')
theorem dk_app {w w1 w2 : World} {B p g g' b s : Nat} {l ys : List UInt8} {A' : Option Addr} {cap' : Nat} (h : Dk w B p g b s l) (hB : B ≤ w.heap.size) (hb : Below w.heap.size w w1) (h1 : HeldAt w2 p g' (.slice A' (l ++ ys).length cap') (l ++ ys)) (hO : Only (fun k => k = g ∧ k ≠ p) w1 w2) (hg : g' = g ∨ w1.heap.size ≤ g') (hs : b + l.length + ys.length ≤ 100000) :
    DkA w B p g b s l ys (.returned (.tuple #[.int .i64 ((b + l.length : Nat) : Int), .int .i64 0])) (w2.setCell ⟨p, 2, none⟩ (.slice A' (l ++ ys).length cap')) := by
  have hsz := hb.size
  obtain ⟨A, cap, h3, _⟩ := (h.below hb).box
  have hp : p < w1.heap.size := (Array.getElem?_eq_some_iff.1 h3).1
  have h4 := (hO.block p hp (fun e => e.2 rfl)).trans h3
  refine ⟨rfl, g', ⟨⟨A', cap', ?_, h1.only (Only.set w2 p 2 _) (fun hne => hne)⟩, ⟨h.ge.1, ?_⟩, h.bs, by have := h.se; rw [List.length_append]; omega, by rw [List.length_append]; omega⟩, ?_, ?_⟩
  · simp [World.setCell, Array.getElem?_modify, h4]
  · rcases hg with rfl | hg
    · exact h.ge.2
    · omega
  · refine (Only.of_below hb).trans ((hO.more (L := fun k => k = p ∨ k = g) (fun _ _ e => .inr e.1)).trans (Only.set w2 p 2 _) (fun _ _ e => .inl e)) (fun _ _ e => e)
  · rcases hg with rfl | hg
    · exact .inl rfl
    · exact .inr (by omega)
theorem dk_free {w w1 w2 : World} {B p g b s : Nat} {l : List UInt8} (h : Dk w B p g b s l) (hb : Below w.heap.size w w1) (hO : Only (fun k => k = g ∧ k ≠ p) w1 w2) : w2.frozen? ⟨p, 2, none⟩ = false ∧ ∃ v, w2.cell? ⟨p, 2, none⟩ = some v := by
  obtain ⟨A, cap, h3, _⟩ := (h.below hb).box
  have hp : p < w1.heap.size := (Array.getElem?_eq_some_iff.1 h3).1
  have h4 := (hO.block p hp (fun e => e.2 rfl)).trans h3
  exact ⟨free3 h4 2, _, (box3 h4).2.2⟩
set_option maxRecDepth 100000 in
set_option maxHeartbeats 1000000 in
theorem append_any {w : World} {B p g b s : Nat} {l : List UInt8} (h : Dk w B p g b s l) (hB : B ≤ w.heap.size) (ys : List UInt8) (C : Option Addr) (n c : Nat) (hn : ys.length = n) (hr : RdB w w.heap.size C ys) (hs : b + l.length + ys.length ≤ 100000) :
    Calls Try.prog 83 #[.pointer (some ⟨p, 0, none⟩), .slice C n c] w (DkA w B p g b s l ys) := by
  subst hn
  obtain ⟨i0, hi, hz0, hz1, hz2⟩ := info_parts info8
  have HE := Lib.hid (end_any h)
  have HR : Hid (∀ n, RdB (w.drewN n) w.heap.size C ys) := Lib.hid fun n => hr.below (drewN_below w n) (Nat.le_refl _)
  have HA := Lib.hid (fun n w2 g' A' cap' => dk_app (w1 := w.drewN n) (w2 := w2) (g' := g') (A' := A') (cap' := cap') (ys := ys) h hB (drewN_below w n))
  have HF := Lib.hid (fun n w2 => dk_free (w1 := w.drewN n) (w2 := w2) h (drewN_below w n))
  have HL : Hid (b + l.length + ys.length ≤ 100000) := Lib.hid hs
  have HLT := Lib.hid h.lt
  obtain ⟨A, cap, h1, h2⟩ := h.box
  have HO : Hid (∀ n, HeldAt (w.drewN n) p g (.slice A l.length cap) l) := Lib.hid fun n => by
    rcases h2 with h2 | ⟨hne, o, cap', hv, ho⟩
    · exact .inl h2
    · exact .inr ⟨hne, o, cap', hv, ho.keep (Nat.le_refl _) rfl⟩
  obtain ⟨x0, x1, x2⟩ := box3 h1
  have hnot : ¬ (1048576 - (l.length : Int) < (ys.length : Int)) := by omega
  have hli : (l.length : Int) ≤ 100000 := by omega
  clear h1 h2 h hr hs hB
  go_enter Try.func83, Try.ntmps83
  go_wp2_with (first
    | (go_at_call 21; refine HE.out.mono ?_; rintro e w2 ⟨rfl, n, rfl⟩)
    | (at_builtin
       refine wpList_appH rfl _ _ 56 rfl Try.underlying56 hi hz0 hz1 hz2 rfl (HO.out _) HLT.out rfl rfl (HR.out _) (by have := HL.out; omega) ?_
       intro g5 v5 w5 ho5 hO5 hg5
       obtain ⟨A5, cap5, hv5⟩ := ho5.slice
       subst hv5
       obtain ⟨z2, v0, y2⟩ := HF.out _ _ hO5
       have HY : Hid (∀ (x : Int) (m : Nat), x = ((b + l.length : Nat) : Int) → m = (l ++ ys).length → DkA w B p g b s l ys (.returned (.tuple #[.int .i64 x, .int .i64 0])) (w5.setCell ⟨p, 2, none⟩ (.slice A5 m cap5))) := Lib.hid (fun x m hx hm => by subst hx hm; exact HA.out _ _ _ _ _ ho5 hO5 hg5 HL.out)
       clear ho5 hO5 hg5))
  go_ret2
  exact HY.out _ _ (by simp) (by simp)
theorem HeldAt.zero {w : World} {p g cap : Nat} {A : Option Addr} {l : List UInt8} (h : HeldAt w p g (.slice A l.length cap) l) : HeldAt w p g (.slice A 0 0) [] := by
  rcases h with ⟨e, rfl, hg⟩ | ⟨hne, o, cap', e, ho⟩
  · injection e with e1 e2 e3
    subst e1
    exact .inl ⟨rfl, rfl, hg⟩
  · injection e with e1 e2 e3
    subst e1
    exact .inr ⟨hne, o, 0, rfl, ho.none_⟩
theorem HeldAt.part {w : World} {p g cap : Nat} {A : Option Addr} {l : List UInt8} (h : HeldAt w p g (.slice A l.length cap) l) {k k2 : Nat} (hk : k ≤ k2) (hk2 : k2 ≤ l.length) : HeldAt w p g (.slice (A.map fun x => x.add k) (k2 - k) (k2 - k)) ((l.drop k).take (k2 - k)) := by
  rcases h with ⟨e, rfl, hg⟩ | ⟨hne, o, cap', e, ho⟩
  · injection e with e1 e2 e3
    subst e1
    have : k2 - k = 0 := by simp at hk2; omega
    rw [this]
    exact .inl ⟨rfl, by simp, hg⟩
  · injection e with e1 e2 e3
    subst e1 e3
    have h1 := (ho.drop (k := k) (by omega)).cut (k := k2 - k) (by rw [List.length_drop]; omega)
    have hl : ((l.drop k).take (k2 - k)).length = k2 - k := by rw [List.length_take, List.length_drop]; omega
    refine .inr ⟨hne, o + k, k2 - k, ?_, h1⟩
    rw [hl, Option.map_some, Addr.add_lit]
/-- what between answers -/
def BtT (w : World) (p g b i j : Nat) (l : List UInt8) (e : Ending) (w' : World) : Prop := ∃ A n m, e = .returned (.slice A m m) ∧ m = j - i ∧ HeldAt w p g (.slice A m m) ((l.drop (i - b)).take (j - i)) ∧ w' = w.drewN n
set_option maxRecDepth 100000 in
set_option maxHeartbeats 1000000 in
theorem between_any {w : World} {B p g b s : Nat} {l : List UInt8} (h : Dk w B p g b s l) (i j : Nat) (hi : b ≤ i) (hij : i ≤ j) (hj : j ≤ b + l.length) :
    Calls Try.prog 33 #[.pointer (some ⟨p, 0, none⟩), .int .i64 (i : Int), .int .i64 (j : Int)] w (BtT w p g b i j l) := by
  obtain ⟨A, cap, h1, h2⟩ := h.box
  have hrm : l.length ≤ cap := by
    rcases h2 with ⟨e, rfl, _⟩ | ⟨_, o, cap', e, ho⟩
    · simp
    · injection e with e1 e2 e3
      subst e3
      exact ho.room
  have hsm := h.small
  have HZ := Lib.hid h2.zero
  have HP := Lib.hid (h2.part (k := i - b) (k2 := j - b) (by omega) (by omega))
  obtain ⟨x0, x1, x2⟩ := box3 h1
  have hbi : (b : Int) ≤ i := by omega
  have hiji : (i : Int) ≤ j := by omega
  have hji : (j : Int) ≤ b + (l.length : Int) := by omega
  have hjc : (j : Int) - b ≤ cap := by omega
  have hji2 : (j : Int) ≤ 100000 := by omega
  clear h1 h2 h
  go_enter Try.func33, Try.ntmps33
  go_wp2_with fail
  go_quiet (fail)
  go_wp2_with fail
  · have hz : j - i = 0 := by omega
    go_ret
    exact ⟨_, _, _, rfl, hz.symm, by rw [hz, List.take_zero]; exact HZ.out, rfl⟩
  · have hz : j - b - (i - b) = j - i := by omega
    go_ret
    refine ⟨_, _, _, rfl, hz, ?_, rfl⟩
    have := HP.out
    rw [hz] at this ⊢
    exact this
/-- what Clone answers -/
def CloneTo (w : World) (l : List UInt8) (e : Ending) (w' : World) : Prop := ∃ v, e = .returned v ∧ OwnB w' w.heap.size v l ∧ Below w.heap.size w w'
set_option maxRecDepth 100000 in
theorem clone_any (l : List UInt8) (a : Addr) (n cap : Nat) (hn : l.length = n) (w : World) (hl : l.length ≤ 100000) (hr : RdB w w.heap.size (some a) l) : Calls Try.prog 32 #[.slice (some a) n cap] w (CloneTo w l) := by
  subst hn
  obtain ⟨i0, hi, hz0, hz1, hz2⟩ := info_parts info8
  have hnil : ∀ (w : World) (a : Option Addr) (n c n' c' : Nat), (binOp .eql 56 (.slice a n c) (.slice none n' c')).run Try.prog w = .ok (.bool a.isNone) w := fun w a n c n' c' => Lib.run_eql_slice_nil w _ _ a n c n' c' Try.underlying56
  have HR := Lib.hid hr
  have HL : Hid (([] : List UInt8).length + l.length ≤ 1000000) := Lib.hid (by simp; omega)
  clear hr hl
  go_enter Try.func32, Try.ntmps32
  go_wp2_with (at_builtin
               have h1 := own_empty (Nat.le_refl w.heap.size) 0
               have h2 := HR.out.below (alloc_below w (.cells #[] 5)) (Nat.le_refl _)
               refine wpList_appB (xs := []) (ys := l) (B := w.heap.size) rfl _ _ 56 rfl Try.underlying56 hi hz0 hz1 hz2 rfl h1 rfl rfl h2 HL.out (by simp) ?_
               intro v5 w5 ho5 hg5
               have HY : Hid (CloneTo w l (.returned v5) w5) := Lib.hid ⟨v5, rfl, ho5, grew_below (alloc_below w (.cells #[] 5)) h1.ge hg5⟩
               clear ho5 hg5 h1 h2)
  go_ret
  exact HY.out
theorem clone_nil (n cap : Nat) (w : World) : Calls Try.prog 32 #[.slice none n cap] w (CloneTo w []) := by
  have hnil : ∀ (w : World) (a : Option Addr) (n c n' c' : Nat), (binOp .eql 56 (.slice a n c) (.slice none n' c')).run Try.prog w = .ok (.bool a.isNone) w := fun w a n c n' c' => Lib.run_eql_slice_nil w _ _ a n c n' c' Try.underlying56
  go_enter Try.func32, Try.ntmps32
  go_wp2_with fail
  go_ret
  exact ⟨_, rfl, OwnB.nil _ _, Below.refl _ _⟩
/-- Clone of a slice that a disk holds -/
theorem clone_held {w : World} {p g n cap : Nat} {A : Option Addr} {l : List UInt8} (h : HeldAt w p g (.slice A n cap) l) (hl : l.length ≤ 100000) : Calls Try.prog 32 #[.slice A n cap] w (CloneTo w l) := by
  obtain ⟨hr, hn⟩ := h.rd
  rcases A with _ | a
  · have : l = [] := by
      rcases l with _ | ⟨y, t⟩
      · rfl
      · obtain ⟨_, e, _⟩ := hr (by simp); cases e
    subst this
    exact clone_nil n cap w
  · exact clone_any l a n cap hn.symm w hl hr
end

section
open Go.RowKit

set_option maxRecDepth 100000 in
set_option maxHeartbeats 1000000 in
theorem read_yes {w : World} {B p g b s : Nat} {l : List UInt8} (h : Dk w B p g b s l) (i j : Nat) (hi : b ≤ i) (hij : i ≤ j) (hj : j ≤ b + l.length) :
    Calls Try.prog 55 #[.pointer (some ⟨p, 0, none⟩), .int .i64 (i : Int), .int .i64 (j : Int)] w (fun e w' => ∃ v, e = .returned (.tuple #[v, .int .i64 0]) ∧ OwnB w' w.heap.size v ((l.drop (i - b)).take (j - i)) ∧ Below w.heap.size w w') := by
  have HE := Lib.hid (end_any h)
  have HB : Hid (∀ n, Calls Try.prog 33 #[.pointer (some ⟨p, 0, none⟩), .int .i64 (i : Int), .int .i64 (j : Int)] (w.drewN n) (BtT (w.drewN n) p g b i j l)) := Lib.hid fun n => between_any (h.below (drewN_below w n)) i j hi hij hj
  have HDW : Hid (∀ n, Below w.heap.size w (w.drewN n)) := Lib.hid fun n => drewN_below w n
  have HL : Hid (((l.drop (i - b)).take (j - i)).length ≤ 100000) := Lib.hid (by have := h.small; rw [List.length_take]; omega)
  have hsm := h.small
  obtain ⟨A, cap, h1, h2⟩ := h.box
  obtain ⟨x0, x1, x2⟩ := box3 h1
  have hbi : ¬ ((i : Int) < b) := by omega
  have hiji : ¬ ((j : Int) < i) := by omega
  have hji : ¬ ((b : Int) + (l.length : Int) < j) := by omega
  clear h1 h2 h hsm
  go_enter Try.func55, Try.ntmps55
  go_wp2_with (first
    | (go_at_call 21; refine HE.out.mono ?_; rintro e w2 ⟨rfl, n, rfl⟩; simp only [Int.natCast_add])
    | (go_at_call 33; refine (HB.out _).mono ?_; rintro e w2 ⟨A2, n2, m2, rfl, hm2, hh2, rfl⟩
       have HC := Lib.hid (fun n => clone_held (hh2.heap (w' := w.drewN n) rfl) HL.out)
       clear hh2 hm2)
    | (go_at_call 32; refine (HC.out _).mono ?_; rintro e w3 ⟨v3, rfl, ho3, hb3⟩
       have HY := Lib.hid (And.intro ho3 ((HDW.out _).trans hb3))
       clear ho3 hb3))
  go_ret2
  exact ⟨_, rfl, HY.out⟩
theorem dk_cut {w w1 : World} {B p g b s k m : Nat} {l : List UInt8} {A : Option Addr} (h : Dk w B p g b s l) (e : w1.heap = w.heap) (hk : b ≤ k) (hk2 : k ≤ b + l.length) (hm : m = k - b) (h1 : HeldAt w p g (.slice A m m) (l.take (k - b))) :
    Dk ((w1.setCell ⟨p, 2, none⟩ (.slice A m m)).setCell ⟨p, 1, none⟩ (.int .i64 (k : Int))) B p g b k (l.take (k - b)) ∧ Only (fun j => j = p) w1 ((w1.setCell ⟨p, 2, none⟩ (.slice A m m)).setCell ⟨p, 1, none⟩ (.int .i64 (k : Int))) := by
  subst hm
  have hl : (l.take (k - b)).length = k - b := by rw [List.length_take]; omega
  have hO := (Only.set w1 p 2 (.slice A (k - b) (k - b))).trans (Only.set _ p 1 (.int .i64 (k : Int))) (fun _ _ e => e)
  obtain ⟨A1, cap1, h2, _⟩ := (h.heap e).box
  refine ⟨⟨⟨A, k - b, ?_, ?_⟩, h.ge, hk, by omega, by have := h.small; omega⟩, hO⟩
  · rw [hl]
    simp [World.setCell, Array.getElem?_modify, h2]
  · rw [hl]
    exact (h1.heap e).only hO (fun hne => hne)
set_option maxRecDepth 100000 in
set_option maxHeartbeats 1000000 in
theorem cut_yes {w : World} {B p g b s : Nat} {l : List UInt8} (h : Dk w B p g b s l) (k : Nat) (hk : b ≤ k) (hk2 : k ≤ b + l.length) :
    Calls Try.prog 57 #[.pointer (some ⟨p, 0, none⟩), .int .i64 (k : Int)] w (DkT w B p g b k (l.take (k - b)) (.int .i64 0)) := by
  have HE := Lib.hid (end_any h)
  have HB : Hid (∀ n, Calls Try.prog 33 #[.pointer (some ⟨p, 0, none⟩), .int .i64 (b : Int), .int .i64 (k : Int)] (w.drewN n) (BtT (w.drewN n) p g b b k l)) := Lib.hid fun n => between_any (h.below (drewN_below w n)) b k (Nat.le_refl _) hk hk2
  have HD := Lib.hid (fun n m A (hm : m = k - b) h1 => dk_cut (w1 := w.drewN n) (m := m) (A := A) h rfl hk hk2 hm h1)
  obtain ⟨A, cap, h1, h2⟩ := h.box
  obtain ⟨x0, x1, x2⟩ := box3 h1
  have z1 := free3 h1 1
  have z2 := free3 h1 2
  have hbi : ¬ ((k : Int) < b) := by omega
  have hji : ¬ ((b : Int) + (l.length : Int) < k) := by omega
  clear h1 h2 h
  go_enter Try.func57, Try.ntmps57
  go_wp2_with (first
    | (go_at_call 21; refine HE.out.mono ?_; rintro e w2 ⟨rfl, n, rfl⟩; simp only [Int.natCast_add])
    | (go_at_call 33; refine (HB.out _).mono ?_; rintro e w2 ⟨A2, n2, m2, rfl, hm2, hh2, rfl⟩
       rw [Nat.sub_self, List.drop_zero] at hh2
       have HY := Lib.hid (fun n => HD.out n m2 A2 hm2 (hh2.heap (w' := w) rfl))
       clear hh2 hm2))
  go_ret
  exact ⟨rfl, (HY.out _).1, (Only.of_below (drewN_below w _)).trans (HY.out _).2 (fun _ _ e => e)⟩
end

section
open Go.RowKit

theorem HeldAt.dropped {w : World} {p g cap : Nat} {A : Option Addr} {l : List UInt8} (h : HeldAt w p g (.slice A l.length cap) l) {k : Nat} (hk : k ≤ l.length) : HeldAt w p g (.slice (if cap = k then A else A.map fun x => x.add k) (l.length - k) (cap - k)) (l.drop k) := by
  rcases h with ⟨e, rfl, hg⟩ | ⟨hne, o, cap', e, ho⟩
  · injection e with e1 e2 e3
    subst e1 e3
    have : k = 0 := by simpa using hk
    subst this
    exact .inl ⟨by simp, by simp, hg⟩
  · injection e with e1 e2 e3
    subst e1 e3
    by_cases hc : cap = k
    · subst hc
      have hz : l.drop cap = [] := List.drop_eq_nil_of_le ho.room
      have hr := ho.room
      rw [if_pos rfl, hz, Nat.sub_self]
      exact .inr ⟨hne, o, 0, by simp; omega, ho.none_⟩
    · rw [if_neg hc]
      exact .inr ⟨hne, o + k, cap - k, by rw [Option.map_some, Addr.add_lit, List.length_drop], ho.drop hk⟩
end

section
open Go.RowKit

/-- which of n a raw number speaks of -/
def pickZ (c : Int) (n : Nat) : Nat := ((if c < 0 then -(c + 1) else c) % (n : Int)).toNat
theorem pickZ_lt (c : Int) {n : Nat} (h : 0 < n) : pickZ c n < n := by
  unfold pickZ
  have h1 := Int.emod_nonneg (if c < 0 then -(c + 1) else c) (b := (n : Int)) (by omega)
  have h2 := Int.emod_lt_of_pos (if c < 0 then -(c + 1) else c) (b := (n : Int)) (by omega)
  omega
/-- what Power answers -/
def PwT (w : World) (b s : Nat) (l : List UInt8) (n : Nat) (e : Ending) (w' : World) : Prop := ∃ p' g', e = .returned (.pointer (some ⟨p', 0, none⟩)) ∧ Dk w' w.heap.size p' g' b (s + n) (l.take (s - b + n)) ∧ Below w.heap.size w w'
theorem dk_power {w w3 : World} {B p g b s n m : Nat} {l : List UInt8} {A' : Option Addr} {cap' : Nat} (h : Dk w B p g b s l) (hn : n < b + l.length - s + 1) (ho : OwnB w3 w.heap.size (.slice A' m cap') (l.take (s - b + n))) (hm : m = s - b + n) (hb : Below w.heap.size w w3) :
    PwT w b s l n (.returned (.pointer (some ⟨w3.heap.size, 0, none⟩))) (w3.alloc (.cells #[.int .i64 (b : Int), .int .i64 ((s + n : Nat) : Int), .slice A' m cap'] 58)) := by
  have hse := h.se
  have hbs := h.bs
  have hsm := h.small
  have hl : (l.take (s - b + n)).length = s - b + n := by rw [List.length_take]; omega
  have hsz := hb.size
  have ho2 := ho.below (alloc_below w3 (.cells #[.int .i64 (b : Int), .int .i64 ((s + n : Nat) : Int), .slice A' m cap'] 58))
  refine ⟨w3.heap.size, ?_⟩
  have hbel := hb.trans ((alloc_below w3 (.cells #[.int .i64 (b : Int), .int .i64 ((s + n : Nat) : Int), .slice A' m cap'] 58)).mono hsz)
  have hheld : ∃ g', HeldAt (w3.alloc (.cells #[.int .i64 (b : Int), .int .i64 ((s + n : Nat) : Int), .slice A' m cap'] 58)) w3.heap.size g' (.slice A' m cap') (l.take (s - b + n)) ∧ w.heap.size ≤ g' := by
    rcases ho2.1.2 with ⟨e, h0⟩ | ⟨g', c', cur, e, hg, hh, hnc, hmx, hsz2, ht⟩
    · exact ⟨w3.heap.size, .inl ⟨e, List.length_eq_zero_iff.1 h0, rfl⟩, hsz⟩
    · injection e with e1 e2 e3
      subst e1 e3
      have hlt : g' < w3.heap.size := ho.lt g' (by simp [Value.ownBlock])
      exact ⟨g', .inr ⟨by omega, 0, cap', by rw [e2], OwnAt.of_own (B := w.heap.size) (by rw [← e2]; exact ho2)⟩, hg⟩
  obtain ⟨g', hh1, hh2⟩ := hheld
  subst hm
  exact ⟨g', rfl, ⟨⟨A', cap', by rw [hl]; exact heap_alloc_new w3 _, by rw [hl]; exact hh1⟩, ⟨hsz, hh2⟩, by omega, by omega, by omega⟩, hbel⟩
theorem pick_neg {c : Int} {s d e : Nat} (h : c < 0) (h1 : -9223372036854775808 ≤ c) (hd : d ≤ 100000) (hs : s ≤ 100000) (he : e = s + pickZ c (d + 1)) : wrap64 ((s : Int) + -(c + 1).tmod ((d : Int) + 1)) = (e : Int) := by
  subst he
  have h2 : -(c + 1).tmod ((d : Int) + 1) = (pickZ c (d + 1) : Int) := by
    rw [← Int.neg_tmod, Int.tmod_eq_emod_of_nonneg (by omega)]
    unfold pickZ
    rw [if_pos h]
    have := Int.emod_nonneg (-(c + 1)) (b := ((d + 1 : Nat) : Int)) (by omega)
    rw [Int.toNat_of_nonneg this]
    simp
  have h3 := pickZ_lt c (n := d + 1) (by omega)
  rw [h2]
  have e : wrap64 ((s : Int) + (pickZ c (d + 1) : Int)) = (s : Int) + (pickZ c (d + 1) : Int) := by
    unfold wrap64
    omega
  rw [e]
  simp
theorem pick_pos {c : Int} {s d e : Nat} (h : ¬ c < 0) (hd : d ≤ 100000) (hs : s ≤ 100000) (he : e = s + pickZ c (d + 1)) : wrap64 ((s : Int) + c % ((d : Int) + 1)) = (e : Int) := by
  subst he
  have h2 : c % ((d : Int) + 1) = (pickZ c (d + 1) : Int) := by
    unfold pickZ
    rw [if_neg h]
    have := Int.emod_nonneg c (b := ((d + 1 : Nat) : Int)) (by omega)
    rw [Int.toNat_of_nonneg this]
    simp
  have h3 := pickZ_lt c (n := d + 1) (by omega)
  rw [h2]
  have e : wrap64 ((s : Int) + (pickZ c (d + 1) : Int)) = (s : Int) + (pickZ c (d + 1) : Int) := by
    unfold wrap64
    omega
  rw [e]
  simp
set_option maxRecDepth 100000 in
set_option maxHeartbeats 2000000 in
theorem power_any {w : World} {B p g b s : Nat} {l : List UInt8} (h : Dk w B p g b s l) (c : Int) (hc : i64ok c) :
    Calls Try.prog 18 #[.pointer (some ⟨p, 0, none⟩), .int .i64 c] w (PwT w b s l (pickZ c (b + l.length - s + 1))) := by
  have HE : Hid (∀ n, Calls Try.prog 21 #[.pointer (some ⟨p, 0, none⟩)] (w.drewN n) (LooksN (.int .i64 ((b + l.length : Nat) : Int)) (w.drewN n))) := Lib.hid fun n => end_any (h.below (drewN_below w n))
  have hse := h.se
  have hsm := h.small
  have hbs := h.bs
  obtain ⟨hc1, hc2⟩ := hc
  obtain ⟨n, hn⟩ : ∃ n, n = pickZ c (b + l.length - s + 1) := ⟨_, rfl⟩
  have hlt := pickZ_lt c (n := b + l.length - s + 1) (by omega)
  rw [← hn] at hlt ⊢
  obtain ⟨e, he⟩ : ∃ e, e = s + n := ⟨_, rfl⟩
  have hd : ((b + l.length - s : Nat) : Int) = (b : Int) + (l.length : Int) - (s : Int) := by omega
  have HN := Lib.hid (fun h1 => pick_neg (c := c) (s := s) (d := b + l.length - s) (e := e) h1 hc1 (by omega) (by omega) (by rw [he, hn]))
  have HP := Lib.hid (fun h1 => pick_pos (c := c) (s := s) (d := b + l.length - s) (e := e) h1 (by omega) (by omega) (by rw [he, hn]))
  rw [hd] at HN HP
  have HB : Hid (∀ n, Calls Try.prog 33 #[.pointer (some ⟨p, 0, none⟩), .int .i64 (b : Int), .int .i64 (e : Int)] (w.drewN n) (BtT (w.drewN n) p g b b e l)) := Lib.hid fun n => between_any (h.below (drewN_below w n)) b e (Nat.le_refl _) (by omega) (by omega)
  have HL : Hid (((l.drop (b - b)).take (e - b)).length ≤ 100000) := Lib.hid (by rw [List.length_take]; omega)
  have HDW : Hid (∀ n, Below w.heap.size w (w.drewN n)) := Lib.hid fun n => drewN_below w n
  have HY := Lib.hid (fun w3 A' m cap' => dk_power (w3 := w3) (A' := A') (m := m) (cap' := cap') h hlt)
  have HEE := Lib.hid he
  have HMN : Hid (s - b + n ≤ l.length) := Lib.hid (by omega)
  have HED : Hid (List.take (e - b) (List.drop (b - b) l) = l.take (s - b + n)) := Lib.hid (by rw [Nat.sub_self, List.drop_zero]; congr 1; omega)
  obtain ⟨A, cap, h1, h2⟩ := h.box
  obtain ⟨x0, x1, x2⟩ := box3 h1
  have HX := Lib.hid h1
  have HPL := Lib.hid h.lt
  have hsei : (s : Int) ≤ b + (l.length : Int) := by omega
  have hsmi : (b : Int) + (l.length : Int) ≤ 100000 := by omega
  clear h1 h2 h hn hlt he hd
  by_cases hneg : c < 0
  · have hw := HN.out hneg
    go_enter Try.func18, Try.ntmps18
    go_wp2_with fail
    go_quiet (first | (go_at_call 21; refine Calls.quiet_of (HE.out _)))
    go_wp2_with fail
    rw [hw]
    go_region_law (first
      | (go_simp; go_at_call 33; refine (HB.out _).mono ?_; rintro e2 w2 ⟨A2, n2, m2, rfl, hm2, hh2, rfl⟩
         have HC := Lib.hid (fun n => clone_held (hh2.heap (w' := w.drewN n) rfl) HL.out)
         clear hh2 hm2)
      | (go_simp; go_at_call 32; refine (HC.out _).mono ?_; rintro e3 w3 ⟨v3, rfl, ho3, hb3⟩
         have hb4 := (HDW.out _).trans hb3
         obtain ⟨y0, y1, y2⟩ := box3 ((hb4.block _ HPL.out).trans HX.out)
         rw [HED.out] at ho3
         obtain ⟨_, A3, cap3, hv3, _⟩ := id ho3
         subst hv3
         have HP3 : Hid (∀ (x : Int) (m : Nat), x = (e : Int) → m = s - b + n → PwT w b s l n (.returned (.pointer (some ⟨w3.heap.size, 0, none⟩))) (w3.alloc (.cells #[.int .i64 (b : Int), .int .i64 x, .slice A3 m cap3] 58))) := Lib.hid (fun x m hx hm => by
           have h5 := HY.out w3 A3 m cap3 (by have h6 := ho3; rw [show (l.take (s - b + n)).length = m by rw [List.length_take]; have := HMN.out; omega] at h6; exact h6) hm hb4
           rw [← HEE.out, ← hx] at h5
           exact h5)
         clear ho3 hb3 hb4))
    all_goals
      go_wp2_with fail
      go_ret
      exact HP3.out _ _ rfl (by have := HMN.out; omega)
  · have hw := HP.out hneg
    go_enter Try.func18, Try.ntmps18
    go_wp2_with fail
    go_quiet (first | (go_at_call 21; refine Calls.quiet_of (HE.out _)))
    go_wp2_with fail
    rw [hw]
    go_region_law (first
      | (go_simp; go_at_call 33; refine (HB.out _).mono ?_; rintro e2 w2 ⟨A2, n2, m2, rfl, hm2, hh2, rfl⟩
         have HC := Lib.hid (fun n => clone_held (hh2.heap (w' := w.drewN n) rfl) HL.out)
         clear hh2 hm2)
      | (go_simp; go_at_call 32; refine (HC.out _).mono ?_; rintro e3 w3 ⟨v3, rfl, ho3, hb3⟩
         have hb4 := (HDW.out _).trans hb3
         obtain ⟨y0, y1, y2⟩ := box3 ((hb4.block _ HPL.out).trans HX.out)
         rw [HED.out] at ho3
         obtain ⟨_, A3, cap3, hv3, _⟩ := id ho3
         subst hv3
         have HP3 : Hid (∀ (x : Int) (m : Nat), x = (e : Int) → m = s - b + n → PwT w b s l n (.returned (.pointer (some ⟨w3.heap.size, 0, none⟩))) (w3.alloc (.cells #[.int .i64 (b : Int), .int .i64 x, .slice A3 m cap3] 58))) := Lib.hid (fun x m hx hm => by
           have h5 := HY.out w3 A3 m cap3 (by have h6 := ho3; rw [show (l.take (s - b + n)).length = m by rw [List.length_take]; have := HMN.out; omega] at h6; exact h6) hm hb4
           rw [← HEE.out, ← hx] at h5
           exact h5)
         clear ho3 hb3 hb4))
    all_goals
      go_wp2_with fail
      go_ret
      exact HP3.out _ _ rfl (by have := HMN.out; omega)
end

section
open Go.RowKit

theorem end_at {w : World} {B p g b s : Nat} {l : List UInt8} (h : Dk w B p g b s l) (m : Int) (hm : m = ((b + l.length : Nat) : Int)) : Calls Try.prog 21 #[.pointer (some ⟨p, 0, none⟩)] w (LooksN (.int .i64 m) w) := by
  subst hm
  exact end_any h
/-- what Append answers where there is room -/
def DkB (w : World) (B p g b s : Nat) (m : Int) (l' : List UInt8) (e : Ending) (w' : World) : Prop :=
  e = .returned (.tuple #[.int .i64 m, .int .i64 0]) ∧ ∃ g', Dk w' B p g' b s l' ∧ Only (fun k => k = p ∨ k = g) w w' ∧ (g' = g ∨ w.heap.size ≤ g')
theorem append_at {w : World} {B p g b s : Nat} {l : List UInt8} (h : Dk w B p g b s l) (hB : B ≤ w.heap.size) (ys : List UInt8) (C : Option Addr) (n c : Nat) (hn : ys.length = n) (hr : RdB w w.heap.size C ys) (hs : b + l.length + ys.length ≤ 100000) (m : Int) (hm : m = ((b + l.length : Nat) : Int)) (l' : List UInt8) (hl : l' = l ++ ys) :
    Calls Try.prog 83 #[.pointer (some ⟨p, 0, none⟩), .slice C n c] w (DkB w B p g b s m l') := by
  subst hm hl
  exact append_any h hB ys C n c hn hr hs
theorem sync_at {w : World} {B p g b s : Nat} {l : List UInt8} (h : Dk w B p g b s l) (s' : Nat) (hs : s' = b + l.length) : Calls Try.prog 58 #[.pointer (some ⟨p, 0, none⟩)] w (DkT w B p g b s' l (.int .i64 0)) := by
  subst hs
  exact sync_any h
/-- what Read answers where the bytes are -/
def RdY (w : World) (l' : List UInt8) (e : Ending) (w' : World) : Prop := ∃ v, e = .returned (.tuple #[v, .int .i64 0]) ∧ OwnB w' w.heap.size v l' ∧ Below w.heap.size w w'
theorem read_at {w : World} {B p g b s : Nat} {l : List UInt8} (h : Dk w B p g b s l) (i j : Nat) (hi : b ≤ i) (hij : i ≤ j) (hj : j ≤ b + l.length) (x y : Int) (hx : x = (i : Int)) (hy : y = (j : Int)) (l' : List UInt8) (hl : l' = (l.drop (i - b)).take (j - i)) :
    Calls Try.prog 55 #[.pointer (some ⟨p, 0, none⟩), .int .i64 x, .int .i64 y] w (RdY w l') := by
  subst hx hy hl
  exact read_yes h i j hi hij hj
/-- what Power answers -/
def PwS (w : World) (b s : Nat) (l : List UInt8) (e : Ending) (w' : World) : Prop := ∃ p' g', e = .returned (.pointer (some ⟨p', 0, none⟩)) ∧ Dk w' w.heap.size p' g' b s l ∧ Below w.heap.size w w'
theorem power_at {w : World} {B p g b s : Nat} {l : List UInt8} (h : Dk w B p g b s l) (c : Int) (hc : i64ok c) (n s' : Nat) (hn : n = pickZ c (b + l.length - s + 1)) (hs : s' = s + n) (l' : List UInt8) (hl : l' = l.take (s' - b)) :
    Calls Try.prog 18 #[.pointer (some ⟨p, 0, none⟩), .int .i64 c] w (PwS w b s' l') := by
  subst hn hs hl
  refine (power_any h c hc).mono ?_
  rintro e w' ⟨p', g', he, hd, hb⟩
  refine ⟨p', g', he, ?_, hb⟩
  have := h.bs
  rw [show s + pickZ c (b + l.length - s + 1) - b = s - b + pickZ c (b + l.length - s + 1) by omega]
  exact hd
theorem pickZ_one (c : Int) : pickZ c 1 = 0 := by have := pickZ_lt c (n := 1) (by omega); omega
set_option maxRecDepth 100000 in
theorem pick_any (c : Int) (n : Nat) (hn : 0 < n) (hn2 : n ≤ 100000) (hc : i64ok c) (m : Nat) (hm : m = pickZ c n) (y : Int) (hy : y = (n : Int)) (w : World) : Calls Try.prog 28 #[.int .i64 c, .int .i64 y] w (Looks (.int .i64 (m : Int)) w) := by
  subst hm hy
  obtain ⟨hc1, hc2⟩ := hc
  have hni : (0 : Int) < n := by omega
  have hni2 : (n : Int) ≤ 100000 := by omega
  by_cases h : c < 0
  · have HE : Hid (-(c + 1).tmod (n : Int) = (pickZ c n : Int)) := Lib.hid (by
      rw [← Int.neg_tmod, Int.tmod_eq_emod_of_nonneg (by omega)]
      unfold pickZ
      rw [if_pos h]
      have := Int.emod_nonneg (-(c + 1)) (b := (n : Int)) (by omega)
      rw [Int.toNat_of_nonneg this])
    go_enter Try.func28, Try.ntmps28
    go_wp2_with fail
    go_ret
    exact ⟨by rw [← HE.out]; rfl, rfl⟩
  · have HE : Hid (c % (n : Int) = (pickZ c n : Int)) := Lib.hid (by
      unfold pickZ
      rw [if_neg h]
      have := Int.emod_nonneg c (b := (n : Int)) (by omega)
      rw [Int.toNat_of_nonneg this])
    go_enter Try.func28, Try.ntmps28
    go_wp2_with fail
    go_ret
    exact ⟨by rw [← HE.out]; rfl, rfl⟩
theorem box2 {w : World} {b : Nat} {x y : Value} {t : TypeId} {fr : Nat × Nat} (h : w.heap[b]? = some (.cells #[x, y] t fr)) : w.cell? ⟨b, 0, none⟩ = some x ∧ w.cell? ⟨b, 1, none⟩ = some y := by
  simp [World.cell?, h]
theorem OwnB.heap {w w' : World} {B : Nat} {v : Value} {l : List UInt8} (h : OwnB w B v l) (e : w'.heap = w.heap) : OwnB w' B v l := by
  refine ⟨⟨h.1.1, ?_⟩, h.2⟩
  rcases h.1.2 with h1 | ⟨g, cap, cur, h1, h2, h3, h4⟩
  · exact .inl h1
  · exact .inr ⟨g, cap, cur, h1, h2, by rw [e]; exact h3, h4⟩
theorem RdB.heap {w w' : World} {B : Nat} {A : Option Addr} {l : List UInt8} (h : RdB w B A l) (e : w'.heap = w.heap) : RdB w' B A l := h.keep fun k _ => by rw [e]
theorem below_drew {w w' : World} (h : Below w.drew.heap.size w.drew w') : Below w.heap.size w w' := (drew_below w).trans h
end
end Go.Proofs.Ytogogekmodbdiaa
