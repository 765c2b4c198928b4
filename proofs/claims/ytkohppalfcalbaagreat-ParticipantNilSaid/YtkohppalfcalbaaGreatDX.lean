/- Bytes of the call's own from any place of a block on: appends to them, cuts of them; what a call may turn. -/
import Derived.Test.YtkohppalfcalbaaGreatKX
import Derived.ArgAppend
import Derived.Maps.OwnSet
import Derived.StringKeys
import Derived.DeepKeys5
namespace Go.Proofs.YtkohppalfcalbaaGreat
section
open Go.RowKit

/-- nothing that was there turns, but for the blocks that K names -/
structure Only (K : Nat → Prop) (w w' : World) : Prop where
  os : w'.os = w.os
  tape : w'.tape = w.tape
  output : w'.output = w.output
  size : w.heap.size ≤ w'.heap.size
  block : ∀ k, k < w.heap.size → ¬ K k → w'.heap[k]? = w.heap[k]?
theorem Only.refl (K : Nat → Prop) (w : World) : Only K w w := ⟨rfl, rfl, rfl, Nat.le_refl _, fun _ _ _ => rfl⟩
theorem Only.trans {K L : Nat → Prop} {w w1 w2 : World} (h : Only K w w1) (k : Only L w1 w2) (hL : ∀ j, j < w.heap.size → L j → K j) : Only K w w2 :=
  ⟨k.os.trans h.os, k.tape.trans h.tape, k.output.trans h.output, Nat.le_trans h.size k.size, fun b hb hne => (k.block b (Nat.lt_of_lt_of_le hb h.size) (fun e => hne (hL b hb e))).trans (h.block b hb hne)⟩
theorem Only.more {K L : Nat → Prop} {w w1 : World} (h : Only K w w1) (hL : ∀ j, j < w.heap.size → K j → L j) : Only L w w1 :=
  ⟨h.os, h.tape, h.output, h.size, fun b hb hne => h.block b hb (fun e => hne (hL b hb e))⟩
theorem Only.of_below {K : Nat → Prop} {w w1 : World} (h : Below w.heap.size w w1) : Only K w w1 := ⟨h.os, h.tape, h.output, h.size, fun b hb _ => h.block b hb⟩
theorem Only.below {K : Nat → Prop} {w w1 : World} {B : Nat} (h : Only K w w1) (hB : B ≤ w.heap.size) (hK : ∀ j, K j → B ≤ j) : Below B w w1 :=
  ⟨h.os, h.tape, h.output, h.size, fun b hb => h.block b (by omega) (fun e => by have := hK b e; omega)⟩
theorem Only.of_grown {w w1 : World} {r : Option Nat} (h : w.grownBy w1 r) : Only (fun k => some k = r) w w1 := ⟨h.os, h.tape, h.output, h.size, fun b hb hne => h.block b hb hne⟩
theorem Only.set (w : World) (g i : Nat) (v : Value) : Only (· = g) w (w.setCell ⟨g, i, none⟩ v) := by
  refine ⟨by simp [World.setCell], by simp [World.setCell], by simp [World.setCell], by simp [World.setCell], fun b hb hne => ?_⟩
  have : ¬ g = b := fun e => hne e.symm
  simp [World.setCell, Array.getElem?_modify, this]
theorem Only.sets (g : Nat) : ∀ (vs : List Value) (o : Nat) (w : World), Only (· = g) w (w.setCells g o vs)
  | [], _, w => Only.refl _ w
  | v :: r, o, w => (Only.set w g o v).trans (Only.sets g r (o + 1) _) (fun _ _ h => h)
theorem isSome_sets (b : Nat) : ∀ (vs : List Value) (o : Nat) (w : World) (q : Addr), (w.cell? q).isSome = true → ((w.setCells b o vs).cell? q).isSome = true
  | [], _, _, _, h => h
  | v :: r, o, w, q, h => isSome_sets b r (o + 1) _ q (by
      by_cases e : (⟨b, o, none⟩ : Addr) = q
      · subst e
        obtain ⟨u, hu⟩ := Option.isSome_iff_exists.1 h
        rw [World.cell?_setCell_same _ _ _ hu]; rfl
      · rw [World.cell?_setCell_other _ _ _ _ e]; exact h)

/-- l's bytes are the call's own: in block g from place o on, with room for cap of them -/
structure OwnAt (w : World) (g o cap : Nat) (l : List UInt8) : Prop where
  lt : g < w.heap.size
  room : l.length ≤ cap
  free : ∀ j, j < cap → (w.cell? ⟨g, o + j, none⟩).isSome = true ∧ w.frozen? ⟨g, o + j, none⟩ = false
  cell : ∀ j c, l[j]? = some c → w.cell? ⟨g, o + j, none⟩ = some (.int .u8 (c.toNat : Int))
theorem OwnAt.rd {w : World} {g o cap : Nat} {l : List UInt8} (h : OwnAt w g o cap l) : RdB w w.heap.size (some ⟨g, o, none⟩) l := fun _ => ⟨_, rfl, h.lt, fun j c hj => by rw [Addr.add_lit]; exact h.cell j c hj⟩
theorem OwnAt.keep {w w' : World} {g o cap : Nat} {l : List UInt8} (h : OwnAt w g o cap l) (hs : w.heap.size ≤ w'.heap.size) (hb : w'.heap[g]? = w.heap[g]?) : OwnAt w' g o cap l :=
  ⟨Nat.lt_of_lt_of_le h.lt hs, h.room, fun j hj => by
    rw [World.cell?_of_block (a := ⟨g, o + j, none⟩) hb, World.frozen?_of_block (a := ⟨g, o + j, none⟩) hb]
    exact h.free j hj, fun j c hj => by
    rw [World.cell?_of_block (a := ⟨g, o + j, none⟩) hb]
    exact h.cell j c hj⟩
theorem OwnAt.only {K : Nat → Prop} {w w' : World} {g o cap : Nat} {l : List UInt8} (h : OwnAt w g o cap l) (hO : Only K w w') (hK : ¬ K g) : OwnAt w' g o cap l := h.keep hO.size (hO.block g h.lt hK)
theorem OwnAt.of_own {w : World} {B g cap : Nat} {l : List UInt8} (h : OwnB w B (.slice (some ⟨g, 0, none⟩) l.length cap) l) : OwnAt w g 0 cap l := by
  rcases h.1.2 with ⟨e, _⟩ | ⟨g', cap', cur, e, _, hh, hnc, _, hsz, ht⟩
  · cases e
  · injection e with e1 e2 e3
    injection e1 with e1
    injection e1 with e1
    subst e1 e3
    refine ⟨(Array.getElem?_eq_some_iff.1 hh).1, hnc, fun j hj => ?_, fun j c hj => ?_⟩
    · rw [Nat.zero_add, cell_of_row w g j cur _ (0, 0) hh]
      refine ⟨?_, ?_⟩
      · rw [Array.getElem?_eq_getElem (by omega)]; rfl
      · simp [World.frozen?, hh]
    · have h2 := h.1.cells (g := g) rfl j (.int .u8 (c.toNat : Int)) (by simp [bytesV, hj])
      rw [add_plain] at h2
      rw [Nat.zero_add]; exact h2
theorem OwnAt.drop {w : World} {g o cap : Nat} {l : List UInt8} (h : OwnAt w g o cap l) {k : Nat} (hk : k ≤ l.length) : OwnAt w g (o + k) (cap - k) (l.drop k) := by
  refine ⟨h.lt, by have := h.room; rw [List.length_drop]; omega, fun j hj => ?_, fun j c hj => ?_⟩
  · have := h.free (k + j) (by omega)
    rwa [← Nat.add_assoc] at this
  · rw [List.getElem?_drop] at hj
    have := h.cell _ c hj
    rwa [← Nat.add_assoc] at this
theorem OwnAt.cut {w : World} {g o cap : Nat} {l : List UInt8} (h : OwnAt w g o cap l) {k : Nat} (hk : k ≤ l.length) : OwnAt w g o k (l.take k) := by
  refine ⟨h.lt, by rw [List.length_take]; omega, fun j hj => h.free j (by have := h.room; omega), fun j c hj => ?_⟩
  rw [List.getElem?_take] at hj
  split at hj
  · exact h.cell j c hj
  · cases hj
theorem OwnAt.none_ {w : World} {g o cap : Nat} {l : List UInt8} (h : OwnAt w g o cap l) : OwnAt w g o 0 [] :=
  ⟨h.lt, Nat.le_refl _, fun j hj => absurd hj (Nat.not_lt_zero _), fun j c hj => by simp at hj⟩
/-- append to them, whatever the source -/
theorem run_appO {P : Program} {w : World} (t ty : TypeId) {i0 : TypeInfo} (ht : P.underlying t = some (.slice 5)) (hi : P.info? 5 = some i0) (hz : i0.zero = some (.int .u8 0)) (hs : i0.size = 1) (hb : i0.bytes = 1)
    {g o cap : Nat} {xs : List UInt8} (hown : OwnAt w g o cap xs) {A : Option Addr} {C c : Nat} {ys : List UInt8} (hr : RdB w C A ys) (h63 : xs.length + ys.length ≤ 1000000) :
    ∃ g' o' cap' w', (Builtin.append_ #[t, t] ty #[.slice (some ⟨g, o, none⟩) xs.length cap, .slice A ys.length c]).run P w = .ok (.slice (some ⟨g', o', none⟩) (xs ++ ys).length cap') w' ∧ OwnAt w' g' o' cap' (xs ++ ys) ∧ Only (· = g) w w' ∧ (g' = g ∨ w.heap.size ≤ g') := by
  rcases A with _ | ad
  · have hy : ys = [] := by
      rcases ys with _ | ⟨y, ys⟩
      · rfl
      · obtain ⟨_, h, _⟩ := hr (by simp); cases h
    subst hy
    refine ⟨g, o, cap, w, ?_, by simpa using hown, Only.refl _ _, .inl rfl⟩
    have hnc := hown.room
    simp [Builtin.append_, run_underlying ht, sizeOf, typeInfo, hi, Builtin.lenOf, Builtin.firstCells, hnc, storeCells]
  · have hcells : ∀ j u, (bytesV ys)[j]? = some u → w.cell? (ad.add j) = some u := by
      intro j u hu
      have hn : ys ≠ [] := fun e => by subst e; simp [bytesV] at hu
      obtain ⟨ad', h, _, hc⟩ := hr hn
      injection h with h
      subst h
      simp only [bytesV, List.getElem?_map, Option.map_eq_some_iff] at hu
      obtain ⟨b, hb1, rfl⟩ := hu
      exact hc j b hb1
    have holds : ∀ j u, (bytesV xs)[j]? = some u → w.cell? ((⟨g, o, none⟩ : Addr).add j) = some u := by
      intro j u hu
      simp only [bytesV, List.getElem?_map, Option.map_eq_some_iff] at hu
      obtain ⟨b, hb1, rfl⟩ := hu
      rw [Addr.add_lit]
      exact hown.cell j b hb1
    by_cases hroom : xs.length + ys.length ≤ cap
    · have hrun := run_append_room_cells (P := P) w t ty 5 i0 ht hi g o xs.length cap ad ys.length c (bytesV ys) (by rw [bytesV_len, hs, Nat.mul_one]) hcells (bytesV_one ys) hroom
        (fun j hj => by rw [bytesV_len] at hj; rw [hs, Nat.mul_one, Nat.add_assoc]; exact (hown.free (xs.length + j) (by omega)).1)
        (fun j hj => by rw [bytesV_len] at hj; rw [hs, Nat.mul_one, Nat.add_assoc]; exact (hown.free (xs.length + j) (by omega)).2)
      rw [hs, Nat.mul_one] at hrun
      refine ⟨g, o, cap, _, by rw [List.length_append]; exact hrun, ⟨?_, by rw [List.length_append]; exact hroom, fun j hj => ⟨isSome_sets g _ _ w _ (hown.free j hj).1, by rw [World.frozen?_setCells]; exact (hown.free j hj).2⟩, fun j d hj => ?_⟩, Only.sets g _ _ w, .inl rfl⟩
      · exact Nat.lt_of_lt_of_le hown.lt (Only.sets g _ _ w).size
      · by_cases hlt : j < xs.length
        · rw [World.cell?_setCells_out g _ _ w _ (fun _ _ => .inl (by show o + j < o + xs.length; omega))]
          exact hown.cell j d (by rw [← hj, List.getElem?_append_left hlt])
        · rw [List.getElem?_append_right (by omega)] at hj
          have hjl := (List.getElem?_eq_some_iff.1 hj).1
          have h1 := World.cell?_setCells_in g (bytesV ys) (o + xs.length) w (fun i hi => by
            rw [bytesV_len] at hi
            rw [Nat.add_assoc]
            exact (hown.free (xs.length + i) (by omega)).1) (j - xs.length) (by rw [bytesV_len]; omega)
          rw [show o + xs.length + (j - xs.length) = o + j by omega] at h1
          rw [h1]
          congr 1
          have h2 := (List.getElem?_eq_some_iff.1 hj).2
          simp only [bytesV, List.getElem_map, h2]
    · obtain ⟨v', w', hrun, h1, h2⟩ := run_append_arg_grows (P := P) w t ty 5 i0 (.int .u8 0) 1 1 ht hi hz hs hb rfl (by omega) ⟨g, o, none⟩ xs.length cap (bytesV xs) (by simp [bytesV]) holds ad ys.length c (bytesV ys) (by simp [bytesV]) hcells (by omega) (by unfold maxLen; omega) (by omega)
      rw [← bytesV_app] at h1
      have ho := OwnB.of_row h1
      have hpos : 0 < (xs ++ ys).length := by rw [List.length_append]; omega
      obtain ⟨g', cap', hv, hg⟩ := ho.head hpos
      subst hv
      exact ⟨g', 0, cap', w', hrun, OwnAt.of_own ho, (Only.of_grown h2).more (fun j _ e => by cases e), .inr hg⟩
/-- a slice that is nil, or of the call's own bytes (in block g, which is not p) -/
def HeldAt (w : World) (p g : Nat) (v : Value) (l : List UInt8) : Prop := (v = .slice none 0 0 ∧ l = [] ∧ g = p) ∨ (g ≠ p ∧ ∃ o cap, v = .slice (some ⟨g, o, none⟩) l.length cap ∧ OwnAt w g o cap l)
theorem HeldAt.only {K : Nat → Prop} {w w' : World} {p g : Nat} {v : Value} {l : List UInt8} (h : HeldAt w p g v l) (hO : Only K w w') (hK : g ≠ p → ¬ K g) : HeldAt w' p g v l := by
  rcases h with h | ⟨hne, o, cap, hv, ho⟩
  · exact .inl h
  · exact .inr ⟨hne, o, cap, hv, ho.only hO (hK hne)⟩
theorem HeldAt.of_own {w : World} {B p : Nat} {v : Value} {l : List UInt8} (h : OwnB w B v l) (hB : p < B) : ∃ g, HeldAt w p g v l ∧ (g = p ∨ B ≤ g) := by
  obtain ⟨h1, A, cap, rfl, hc⟩ := h
  rcases h1.2 with ⟨e, h0⟩ | ⟨g, cap', cur, e, hg, hh, hnc, hm, hsz, ht⟩
  · exact ⟨p, .inl ⟨e, List.length_eq_zero_iff.1 h0, rfl⟩, .inl rfl⟩
  · injection e with e1 e2 e3
    subst e1 e3
    exact ⟨g, .inr ⟨by omega, 0, cap, rfl, OwnAt.of_own ⟨h1, _, _, rfl, hc⟩⟩, .inr hg⟩
theorem HeldAt.rd {w : World} {p g : Nat} {A : Option Addr} {n cap : Nat} {l : List UInt8} (h : HeldAt w p g (.slice A n cap) l) : RdB w w.heap.size A l ∧ n = l.length := by
  rcases h with ⟨e, rfl, _⟩ | ⟨_, o, cap', e, ho⟩
  · injection e with e1 e2 e3
    exact ⟨RdB.nil _ _ _, e2⟩
  · injection e with e1 e2 e3
    subst e1
    exact ⟨ho.rd, e2⟩
/-- append to it -/
theorem run_appH {P : Program} {w : World} (t ty : TypeId) {i0 : TypeInfo} (ht : P.underlying t = some (.slice 5)) (hi : P.info? 5 = some i0) (hz : i0.zero = some (.int .u8 0)) (hs : i0.size = 1) (hb : i0.bytes = 1)
    {p g : Nat} {v : Value} {xs : List UInt8} (hown : HeldAt w p g v xs) (hp : p < w.heap.size) {A : Option Addr} {C c : Nat} {ys : List UInt8} (hr : RdB w C A ys) (h63 : xs.length + ys.length ≤ 1000000) :
    ∃ g' v' w', (Builtin.append_ #[t, t] ty #[v, .slice A ys.length c]).run P w = .ok v' w' ∧ HeldAt w' p g' v' (xs ++ ys) ∧ Only (fun k => k = g ∧ k ≠ p) w w' ∧ (g' = g ∨ w.heap.size ≤ g') := by
  rcases hown with ⟨rfl, rfl, rfl⟩ | ⟨hne, o, cap, rfl, ho⟩
  · obtain ⟨v', w', hrun, h1, h2⟩ := run_appendB (P := P) t ty ht hi hz hs hb (OwnB.nil w w.heap.size) (c := c) hr h63 (Nat.le_refl _)
    obtain ⟨g', h3, h4⟩ := HeldAt.of_own (p := g) h1 hp
    exact ⟨g', v', w', hrun, h3, (Only.of_grown h2.by_).more (fun j _ e => by cases e), h4⟩
  · obtain ⟨g', o', cap', w', hrun, h1, h2, h3⟩ := run_appO (P := P) t ty ht hi hz hs hb ho (c := c) hr h63
    refine ⟨g', _, w', hrun, .inr ⟨?_, o', cap', rfl, h1⟩, h2.more (fun j _ e => ⟨e, by omega⟩), h3⟩
    rcases h3 with rfl | h3
    · exact hne
    · omega
theorem wp_appH {P : Program} {w : World} {o : Oper} {a : Act} {K : Act → World → Prop} {Q : Exit → Act → World → Prop} (s x : Operand) (t : TypeId) (ho : o.op = .call { callee := .builtin .append, args := #[s, x], argTypes := #[t, t] })
    {i0 : TypeInfo} (ht : P.underlying t = some (.slice 5)) (hi : P.info? 5 = some i0) (hz : i0.zero = some (.int .u8 0)) (hs : i0.size = 1) (hb : i0.bytes = 1)
    {p g : Nat} {v : Value} {xs : List UInt8} (hv : a.eval s = v) (hown : HeldAt w p g v xs) (hp : p < w.heap.size) {A : Option Addr} {C c n : Nat} {ys : List UInt8} (hx : a.eval x = .slice A n c) (hn : ys.length = n) (hr : RdB w C A ys) (h63 : xs.length + ys.length ≤ 1000000)
    (h : ∀ g' v' w', HeldAt w' p g' v' (xs ++ ys) → Only (fun k => k = g ∧ k ≠ p) w w' → (g' = g ∨ w.heap.size ≤ g') → K (a.put o.dst v') w') : o.wp P a w K Q := by
  subst hn
  obtain ⟨g', v', w', hrun, h2, h3, h4⟩ := run_appH (P := P) t o.type ht hi hz hs hb hown hp (c := c) hr h63
  unfold Oper.wp execOp
  simp only [ho, resolve, invoke, builtin, Sem.run_bind, Sem.run_pure, Result.andThen_ok, List.map_toArray, List.map_cons, List.map_nil, hv, hx, hrun]
  exact h g' v' w' h2 h3 h4
/-- append, in a row of operations -/
theorem wpList_appH {P : Program} {w : World} {ops : Array Oper} {rest : List Oper} {o : Oper} {a : Act} {Q : Exit → Act → World → Prop} (hgd : o.guard = none) (s x : Operand) (t : TypeId) (ho : o.op = .call { callee := .builtin .append, args := #[s, x], argTypes := #[t, t] })
    {i0 : TypeInfo} (ht : P.underlying t = some (.slice 5)) (hi : P.info? 5 = some i0) (hz : i0.zero = some (.int .u8 0)) (hs : i0.size = 1) (hb : i0.bytes = 1)
    {p g : Nat} {v : Value} {xs : List UInt8} (hv : a.eval s = v) (hown : HeldAt w p g v xs) (hp : p < w.heap.size) {A : Option Addr} {C c n : Nat} {ys : List UInt8} (hx : a.eval x = .slice A n c) (hn : ys.length = n) (hr : RdB w C A ys) (h63 : xs.length + ys.length ≤ 1000000)
    (h : ∀ g' v' w', HeldAt w' p g' v' (xs ++ ys) → Only (fun k => k = g ∧ k ≠ p) w w' → (g' = g ∨ w.heap.size ≤ g') → wpList P ops Q rest (a.put o.dst v') w') : wpList P ops Q (o :: rest) a w :=
  wpList_plain hgd fun _ hK => wp_appH s x t ho ht hi hz hs hb hv hown hp hx hn hr h63 fun g' v' w' h2 h3 h4 => hK _ _ (h g' v' w' h2 h3 h4)
end

section
section
open Go.RowKit Go.Maps

/-- how keys and values of a map stand in memory -/
structure MW (K V : Type) where
  P : Program
  k : TypeId
  t : TypeId
  e : TypeId
  key : K → Lit
  kv : K → Value
  ok : K → Prop
  val : V → Value
  dat : V → DataW Unit
  R : Value → Option (DataW Unit × List MemPlace)
  zero : V
structure MW.Good {K V : Type} (M : MW K V) : Prop where
  keyed : Keyed M.P M.k
  und : M.P.underlying M.t = some (.map M.k M.e)
  inj : ∀ x y, M.key x = M.key y → x = y
  isKey : ∀ x, WideAt.IsKeyLit (M.key x)
  keyOf : ∀ x, M.ok x → keyOf M.P M.k (M.kv x) = some (M.key x)
  rd : ∀ v, M.R (M.val v) = some (M.dat v, [])
  back : ∀ v u ps, M.R u = some (M.dat v, ps) → u = M.val v
  zero : ∀ w, (zeroValue M.e).run M.P w = .ok (M.val M.zero) w
variable {K V : Type}
/-- what D says of the entries T -/
structure RepM (M : MW K V) (D : DataW Unit) (T : List (K × V)) : Prop where
  has : ∀ x : K, has D (M.key x) = true ↔ ∃ e ∈ T, e.1 = x
  at_ : ∀ e ∈ T, ∀ zd, D.atKey (M.key e.1) zd = M.dat e.2
  size : size D = T.length
  tidy : Tidy D
  one : T.Pairwise fun a b => a.1 ≠ b.1
theorem RepM.nil (M : MW K V) : RepM M (.map []) [] := ⟨fun x => by simp [Maps.has], fun e he => by simp at he, rfl, tidy_empty, List.Pairwise.nil⟩
theorem ownsMap_tightM {P : Program} {k : TypeId} {w : World} {b n : Nat} {R : Value → Option (DataW Unit × List MemPlace)} {D : DataW Unit} (h : w.ownsMap P k R b n D) : w.ownsMap P k R b (size D) D := by
  obtain ⟨es, clock, hb, F, hs, rfl⟩ := h
  exact ⟨es, clock, hb, F, by simp [Maps.size, length_sorted], rfl⟩
/-- the entries T lie in map block m -/
def MapM (M : MW K V) (w : World) (m : Nat) (T : List (K × V)) : Prop := ∃ D, w.ownsMap M.P M.k M.R m T.length D ∧ RepM M D T
theorem MapM.lt {M : MW K V} {w : World} {m : Nat} {T : List (K × V)} (h : MapM M w m T) : m < w.heap.size := by obtain ⟨D, h1, _⟩ := h; exact h1.lt
theorem MapM.kept {M : MW K V} {w w' : World} {m : Nat} {T : List (K × V)} (h : MapM M w m T) (hb : w'.heap[m]? = w.heap[m]?) : MapM M w' m T := by
  obtain ⟨D, ⟨es, cl, hh, hr⟩, h2⟩ := h
  exact ⟨D, ⟨es, cl, hb.trans hh, hr⟩, h2⟩
theorem MapM.below {M : MW K V} {w w' : World} {m : Nat} {T : List (K × V)} (h : MapM M w m T) (hb : Below w.heap.size w w') : MapM M w' m T := h.kept (hb.block m h.lt)
theorem MapM.noCells {M : MW K V} {w : World} {m : Nat} {T : List (K × V)} (h : MapM M w m T) {k : Nat} {cs : Array Value} {t : TypeId} {fr : Nat × Nat} (hk : w.heap[k]? = some (.cells cs t fr)) : k ≠ m := fun e => by
  obtain ⟨D, ⟨es, cl, hh, _⟩, _⟩ := h
  rw [e, hh] at hk
  cases hk
theorem MapM.one {M : MW K V} {w : World} {m : Nat} {T : List (K × V)} (h : MapM M w m T) : T.Pairwise fun a b => a.1 ≠ b.1 := by obtain ⟨D, _, h2⟩ := h; exact h2.one
theorem MapM.new (M : MW K V) (w : World) : MapM M (w.alloc (.map #[] 0)) w.heap.size [] := ⟨.map [], World.ownsMap_made w M.P M.k M.R, RepM.nil M⟩
theorem MapM.len {M : MW K V} (g : M.Good) {w : World} {m : Nat} {T : List (K × V)} (h : MapM M w m T) (ty : TypeId) : (Builtin.len_ #[M.t] ty #[.map (some m)]).run M.P w = .ok (.int .i64 (T.length : Int)) w := by
  obtain ⟨D, h2, h3⟩ := h
  rw [h2.len g.und ty, h3.size]
variable [DecidableEq K]
def findM (T : List (K × V)) (x : K) : Option (K × V) := T.find? fun e => decide (e.1 = x)
def dropM (T : List (K × V)) (x : K) : List (K × V) := T.filter fun e => decide (e.1 ≠ x)
def putM (T : List (K × V)) (x : K) (v : V) : List (K × V) := dropM T x ++ [(x, v)]
theorem findM_some {T : List (K × V)} {x : K} {e : K × V} (h : findM T x = some e) : e ∈ T ∧ e.1 = x :=
  ⟨List.mem_of_find?_eq_some h, by simpa using List.find?_some h⟩
theorem findM_none {T : List (K × V)} {x : K} (h : findM T x = none) : ∀ e ∈ T, e.1 ≠ x := fun e he => by simpa using List.find?_eq_none.1 h e he
theorem dropM_none {T : List (K × V)} {x : K} (h : findM T x = none) : dropM T x = T := List.filter_eq_self.2 fun e he => by simpa using findM_none h e he
theorem dropM_len {T : List (K × V)} (h : T.Pairwise fun a b => a.1 ≠ b.1) (x : K) : (dropM T x).length + (if T.any (fun e => decide (e.1 = x)) then 1 else 0) = T.length := by
  induction T with
  | nil => rfl
  | cons a T ih =>
    obtain ⟨h2, h3⟩ := List.pairwise_cons.1 h
    have ih := ih h3
    unfold dropM at ih ⊢
    by_cases ha : a.1 = x
    · have hno : T.any (fun e => decide (e.1 = x)) = false := by
        rw [List.any_eq_false]
        intro u hu hux
        simp only [decide_eq_true_eq] at hux
        exact h2 u hu (ha.trans hux.symm)
      rw [hno] at ih
      simp only [List.filter_cons, ha, ne_eq, not_true_eq_false, decide_false, Bool.false_eq_true, if_false, List.any_cons, decide_true, Bool.true_or, if_true, List.length_cons] at ih ⊢
      omega
    · simp only [List.filter_cons, ha, ne_eq, not_false_eq_true, decide_true, if_true, List.any_cons, decide_false, Bool.false_or, List.length_cons] at ih ⊢
      omega
theorem RepM.any {M : MW K V} {D : DataW Unit} {T : List (K × V)} (h : RepM M D T) (x : K) : Maps.has D (M.key x) = T.any (fun e => decide (e.1 = x)) := by
  rw [Bool.eq_iff_iff, h.has x, List.any_eq_true]
  simp only [decide_eq_true_eq]
theorem RepM.del {M : MW K V} (g : M.Good) {D : DataW Unit} {T : List (K × V)} (h : RepM M D T) (x : K) : RepM M (D.del (M.key x)) (dropM T x) := by
  refine ⟨fun y => ?_, fun u hu zd => ?_, ?_, h.tidy.del _, List.Pairwise.filter _ h.one⟩
  · by_cases hx : y = x
    · subst hx
      rw [has_del_same]
      unfold dropM
      simp
    · rw [has_del_other (fun e => hx (g.inj _ _ e)), h.has y]
      unfold dropM
      constructor
      · rintro ⟨u, hu, rfl⟩; exact ⟨u, by simp [hu, hx], rfl⟩
      · rintro ⟨u, hu, rfl⟩; exact ⟨u, (List.mem_filter.1 hu).1, rfl⟩
  · obtain ⟨h1, h2⟩ := List.mem_filter.1 hu
    simp only [decide_eq_true_eq] at h2
    rw [atKey_del_other (fun e => h2 (g.inj _ _ e))]
    exact h.at_ u h1 zd
  · have h1 := size_del (k := M.key x) h.tidy
    rw [h.size, h.any x] at h1
    have h4 := dropM_len h.one x
    omega
theorem RepM.put {M : MW K V} (g : M.Good) {D : DataW Unit} {T : List (K × V)} (h : RepM M D T) (x : K) (v : V) : RepM M (D.put (M.key x) (M.dat v)) (putM T x v) := by
  have hm := h.tidy.isMap
  unfold putM
  refine ⟨fun y => ?_, fun u hu zd => ?_, ?_, h.tidy.put (g.isKey _) _, ?_⟩
  · by_cases hx : y = x
    · subst hx
      rw [has_put_same hm (g.isKey _)]
      simp
    · rw [has_put_other (fun e => hx (g.inj _ _ e)), h.has y]
      unfold dropM
      simp only [List.mem_append, List.mem_singleton, List.mem_filter, decide_eq_true_eq]
      constructor
      · rintro ⟨u, hu, hx2⟩; exact ⟨u, .inl ⟨hu, fun e => hx (hx2.symm.trans e)⟩, hx2⟩
      · rintro ⟨u, ⟨hu, _⟩ | rfl, hx2⟩
        · exact ⟨u, hu, hx2⟩
        · exact absurd hx2.symm hx
  · rw [List.mem_append, List.mem_singleton] at hu
    rcases hu with hu | rfl
    · obtain ⟨h1, h2⟩ := List.mem_filter.1 hu
      simp only [decide_eq_true_eq] at h2
      rw [atKey_put_other (fun e => h2 (g.inj _ _ e))]
      exact h.at_ u h1 zd
    · exact atKey_put_same hm (g.isKey _) _ _
  · have h4 := dropM_len h.one x
    rw [size_put h.tidy, h.any, List.length_append, h.size]
    cases hany : T.any (fun u => decide (u.1 = x))
    · rw [hany] at h4; simp at h4 ⊢; omega
    · rw [hany] at h4; simp at h4 ⊢; omega
  · rw [List.pairwise_append]
    refine ⟨List.Pairwise.filter _ h.one, by simp, fun a ha b hb => ?_⟩
    rw [List.mem_singleton] at hb
    subst hb
    have := (List.mem_filter.1 ha).2
    simpa using this
/-- what stands at a key -/
def atM (M : MW K V) (T : List (K × V)) (x : K) : V := match findM T x with
  | some e => e.2
  | none => M.zero
theorem RepM.look {M : MW K V} (g : M.Good) {D : DataW Unit} {T : List (K × V)} (h : RepM M D T) {x : K} {v : Value} {ps : List MemPlace} (hv : M.R v = some (D.atKey (M.key x) (M.dat M.zero), ps)) : v = M.val (atM M T x) ∧ Maps.has D (M.key x) = (findM T x).isSome := by
  unfold atM
  cases hf : findM T x with
  | some e =>
    obtain ⟨h4, h5⟩ := findM_some hf
    subst h5
    rw [h.at_ e h4] at hv
    exact ⟨g.back _ _ _ hv, (h.has _).2 ⟨e, h4, rfl⟩⟩
  | none =>
    have h1 : Maps.has D (M.key x) = false := by
      rw [h.any x, List.any_eq_false]
      intro u hu
      simpa using findM_none hf u hu
    rw [atKey_of_not_has h1] at hv
    exact ⟨g.back _ _ _ hv, h1⟩
theorem MapM.look {M : MW K V} (g : M.Good) {w : World} {m : Nat} {T : List (K × V)} (h : MapM M w m T) {x : K} (hx : M.ok x) : (Instr.lookup M.t (.map (some m)) (M.kv x) false).run M.P w = .ok (M.val (atM M T x)) w := by
  obtain ⟨D, h2, h3⟩ := h
  obtain ⟨v, ps, hrun, hv⟩ := h2.lookup g.keyed g.und (g.zero w) (g.rd M.zero) (g.keyOf x hx)
  rw [hrun, (h3.look g hv).1]
theorem MapM.look2 {M : MW K V} (g : M.Good) {w : World} {m : Nat} {T : List (K × V)} (h : MapM M w m T) {x : K} (hx : M.ok x) : (Instr.lookup M.t (.map (some m)) (M.kv x) true).run M.P w = .ok (.tuple #[M.val (atM M T x), .bool (findM T x).isSome]) w := by
  obtain ⟨D, h2, h3⟩ := h
  obtain ⟨v, ps, hrun, hv⟩ := h2.look_ok g.keyed g.und (g.zero w) (g.rd M.zero) (g.keyOf x hx)
  obtain ⟨h4, h5⟩ := h3.look g hv
  rw [hrun, h4, h5]
theorem MapM.store {M : MW K V} (g : M.Good) {w : World} {m : Nat} {T : List (K × V)} (h : MapM M w m T) (hl : T.length < 100000) {x : K} (hx : M.ok x) (v : V) : ∃ w', (Instr.mapUpdate M.t (.map (some m)) (M.kv x) (M.val v)).run M.P w = .ok () w' ∧ MapM M w' m (putM T x v) ∧ Only (· = m) w w' := by
  obtain ⟨D, h2, h3⟩ := h
  obtain ⟨w1, hrun, hown1, hturn⟩ := h2.store g.keyed g.und (by unfold maxLen; omega) (g.keyOf x hx) (g.rd v)
  have hp := h3.put g x v
  refine ⟨w1, hrun, ⟨_, ?_, hp⟩, (Only.of_grown hturn.grown).more fun j _ hj => by injection hj⟩
  have h1 := ownsMap_tightM hown1
  rw [hp.size] at h1
  exact h1
theorem MapM.drop {M : MW K V} (g : M.Good) {w : World} {m : Nat} {T : List (K × V)} (h : MapM M w m T) {x : K} (hx : M.ok x) (ty : TypeId) : ∃ w', (Builtin.delete_ #[M.t, M.k] ty #[.map (some m), M.kv x]).run M.P w = .ok (.tuple #[]) w' ∧ MapM M w' m (dropM T x) ∧ Only (· = m) w w' := by
  obtain ⟨D, h2, h3⟩ := h
  obtain ⟨w1, hrun, hown1, hturn⟩ := h2.drop g.keyed g.und (g.keyOf x hx) ty
  have hp := h3.del g x
  refine ⟨w1, hrun, ⟨_, ?_, hp⟩, (Only.of_grown hturn.grown).more fun j _ hj => by injection hj⟩
  have h1 := ownsMap_tightM hown1
  rw [hp.size] at h1
  exact h1
end
end

section
open Go.RowKit Go.Maps

/-- a pointer as an element: the block that it names -/
def ptrV : Option Nat → Value
  | none => .pointer none
  | some b => .pointer (some ⟨b, 0, none⟩)
def ptrD : Option Nat → DataW Unit
  | none => .lit .nil
  | some b => .lit (.int .i64 (b : Int))
def ptrR : Value → Option (DataW Unit × List MemPlace)
  | .pointer none => some (.lit .nil, [])
  | .pointer (some ⟨b, 0, none⟩) => some (.lit (.int .i64 (b : Int)), [])
  | _ => none
theorem ptr_rd (v : Option Nat) : ptrR (ptrV v) = some (ptrD v, []) := by cases v <;> rfl
theorem ptr_back (v : Option Nat) (u : Value) (ps : List MemPlace) (h : ptrR u = some (ptrD v, ps)) : u = ptrV v := by
  unfold ptrR at h
  split at h
  · cases v with
    | none => rfl
    | some b => simp [ptrD] at h
  · cases v with
    | none => simp [ptrD] at h
    | some b =>
      rename_i c
      simp [ptrD] at h
      have h2 : c = b := by omega
      rw [h2]; rfl
  · cases h
def strB (l : List UInt8) : ByteArray := ⟨l.toArray⟩
theorem strB_list (l : List UInt8) : (strB l).data.toList = l := by simp [strB]
theorem strB_size (l : List UInt8) : (strB l).size = l.length := by simp [strB, ByteArray.size]
noncomputable def knownW : MW Int (Option Nat) := ⟨Tryz.prog, 3, 75, 81, fun x => .int .i64 x, fun x => .int .i64 x, i64ok, ptrV, ptrD, ptrR, none⟩
theorem known_good : knownW.Good := by
  refine ⟨int_keyed Tryz.underlying3, Tryz.underlying75, fun x y h => by injection h, fun x => by trivial, fun x hx => keyOf_int_mk Tryz.underlying3 (WalkArith.wf_i64 (by have := hx; unfold knownW i64ok at this; simp only at this; omega)), ptr_rd, ptr_back, fun w => ?_⟩
  show (zeroValue 81).run Tryz.prog w = .ok (.pointer none) w
  kernel_rfl
noncomputable def spaceW : MW (List UInt8) (Option Nat) := ⟨Tryz.prog, 9, 74, 88, fun x => .string x, fun x => .string (strB x), fun x => x.length ≤ maxLen, ptrV, ptrD, ptrR, none⟩
theorem space_good : spaceW.Good := by
  refine ⟨string_keyed Tryz.underlying9, Tryz.underlying74, fun x y h => by injection h, fun x => by trivial, fun x hx => ?_, ptr_rd, ptr_back, fun w => ?_⟩
  · have h := Go.WideMaps.keyOf_string_mk (P := Tryz.prog) (k := 9) Tryz.underlying9 (s := strB x) (by rw [strB_size]; exact hx)
    rw [strB_list] at h
    exact h
  · show (zeroValue 88).run Tryz.prog w = .ok (.pointer none) w
    kernel_rfl
/-- a place: a space's name, and a key -/
def Plc := { x : List UInt8 × List UInt8 // x.1.length ≤ maxLen ∧ x.2.length ≤ maxLen }
instance : DecidableEq Plc := fun a b => decidable_of_iff (a.1 = b.1) ⟨fun h => Subtype.ext h, fun h => by rw [h]⟩
def plcL (x : Plc) : Lit := .string (keyBytes [.string x.1.1, .string x.1.2])
def plcV (x : Plc) : Value := .agg #[.string (strB x.1.1), .string (strB x.1.2)]
def intR : Value → Option (DataW Unit × List MemPlace)
  | .int .i64 a => some (.lit (.int .i64 a), [])
  | _ => none
theorem keyOf_place (x : Plc) : keyOf Tryz.prog 87 (plcV x) = some (plcL x) := by
  have h1 : (strB x.1.1).size ≤ maxLen := by rw [strB_size]; exact x.2.1
  have h2 : (strB x.1.2).size ≤ maxLen := by rw [strB_size]; exact x.2.2
  have hk : Tryz.prog.keyType 87 = true := by kernel_rfl
  have h0 : decide (0 < Tryz.prog.types.size) = true := by kernel_rfl
  have h0' := of_decide_eq_true h0
  obtain ⟨m, hm⟩ : ∃ m, Tryz.prog.types.size = m + 1 := ⟨Tryz.prog.types.size - 1, by omega⟩
  have hc : Tryz.prog.cellsOf 87 = 2 := by kernel_rfl
  have hs : Tryz.prog.cellsOf 9 = 1 := by kernel_rfl
  unfold keyOf
  simp only [Tryz.underlying87]
  rw [if_pos (by simp [hk, Value.formed, Tryz.underlying87, hc, plcV]), hm]
  unfold Program.keyLits
  simp only [Tryz.underlying87, plcV, Value.cells]
  rw [if_pos ⟨by rw [hc]; rfl, by kernel_rfl⟩]
  have e1 : Tryz.prog.keyLits (m + 1) 9 [.string (strB x.1.1)] = some [.string x.1.1] := by
    unfold Program.keyLits
    simp only [Tryz.underlying9]
    rw [if_pos h1, strB_list]
  have e2 : Tryz.prog.keyLits (m + 1) 9 [.string (strB x.1.2)] = some [.string x.1.2] := by
    unfold Program.keyLits
    simp only [Tryz.underlying9]
    rw [if_pos h2, strB_list]
  simp only [List.mapM_cons, List.mapM_nil, hs, List.drop_zero, List.take_succ_cons, List.take_zero, List.drop_succ_cons]
  simp [e1, e2, plcL]
theorem plc_inj (x y : Plc) (h : plcL x = plcL y) : x = y := by
  unfold plcL at h
  injection h with h
  have h2 := Go.keyBytes_inj (l := [.string x.1.1, .string x.1.2]) (l' := [.string y.1.1, .string y.1.2]) ⟨trivial, trivial, trivial⟩ (fun a ha => by
    simp only [List.mem_cons, List.not_mem_nil, or_false] at ha
    rcases ha with rfl | rfl
    · exact x.2.1
    · exact x.2.2) (fun a ha => by
    simp only [List.mem_cons, List.not_mem_nil, or_false] at ha
    rcases ha with rfl | rfl
    · exact y.2.1
    · exact y.2.2) h
  simp only [List.cons.injEq, Lit.string.injEq, and_true] at h2
  exact Subtype.ext (Prod.ext h2.1 h2.2)
theorem int_back (v : Int) (u : Value) (ps : List MemPlace) (h : intR u = some (.lit (.int .i64 v), ps)) : u = .int .i64 v := by
  unfold intR at h
  split at h
  · simp at h
    rw [h.1]
  · cases h
noncomputable def lastW : MW Plc Int := ⟨Tryz.prog, 87, 94, 3, plcL, plcV, fun _ => True, fun v => .int .i64 v, fun v => .lit (.int .i64 v), intR, 0⟩
theorem last_good : lastW.Good := by
  refine ⟨Keyed.of_law (Go.deep_law_gate (by kernel_rfl) (of_decide_eq_true (by kernel_rfl)) (of_decide_eq_true (by kernel_rfl)) (by kernel_rfl) (by kernel_rfl)), Tryz.underlying94, plc_inj, fun x => by trivial, fun x _ => keyOf_place x, fun v => rfl, int_back, fun w => ?_⟩
  show (zeroValue 3).run Tryz.prog w = .ok (.int .i64 0) w
  kernel_rfl
end

section
open Go.RowKit

/-- a disk: its bytes l stand from the offset b on, those ahead of s are safe -/
structure Dk (w : World) (B p g b s : Nat) (l : List UInt8) : Prop where
  box : ∃ A cap, w.heap[p]? = some (.cells #[.int .i64 (b : Int), .int .i64 (s : Int), .slice A l.length cap] 114 (0, 0)) ∧ HeldAt w p g (.slice A l.length cap) l
  ge : B ≤ p ∧ B ≤ g
  bs : b ≤ s
  se : s ≤ b + l.length
  small : b + l.length ≤ 100000
theorem Dk.lt {w : World} {B p g b s : Nat} {l : List UInt8} (h : Dk w B p g b s l) : p < w.heap.size := by
  obtain ⟨A, cap, h1, _⟩ := h.box
  exact (Array.getElem?_eq_some_iff.1 h1).1
theorem Dk.only {K : Nat → Prop} {w w' : World} {B p g b s : Nat} {l : List UInt8} (h : Dk w B p g b s l) (hO : Only K w w') (hp : ¬ K p) (hg : ¬ K g) : Dk w' B p g b s l := by
  obtain ⟨A, cap, h1, h2⟩ := h.box
  exact ⟨⟨A, cap, (hO.block p h.lt hp).trans h1, h2.only hO (fun _ => hg)⟩, h.ge, h.bs, h.se, h.small⟩
theorem Dk.below {w w' : World} {B p g b s : Nat} {l : List UInt8} (h : Dk w B p g b s l) (hb : Below w.heap.size w w') : Dk w' B p g b s l := h.only (Only.of_below (K := fun _ => False) hb) id id
theorem Dk.more {w : World} {B C p g b s : Nat} {l : List UInt8} (h : Dk w B p g b s l) (hC : C ≤ B) : Dk w C p g b s l := ⟨h.box, ⟨Nat.le_trans hC h.ge.1, Nat.le_trans hC h.ge.2⟩, h.bs, h.se, h.small⟩
theorem free3 {w : World} {b : Nat} {x y z : Value} {t : TypeId} (h : w.heap[b]? = some (.cells #[x, y, z] t (0, 0))) (i : Nat) : w.frozen? ⟨b, i, none⟩ = false := by simp [World.frozen?, h]
/-- what New answers -/
def NewT (w : World) (e : Ending) (w' : World) : Prop := ∃ p, e = .returned (.pointer (some ⟨p, 0, none⟩)) ∧ Dk w' w.heap.size p p 0 0 [] ∧ Below w.heap.size w w'
theorem dk_new (w : World) : NewT w (.returned (.pointer (some ⟨w.heap.size, 0, none⟩))) (w.alloc (.cells #[.int .i64 0, .int .i64 0, .slice none 0 0] 114)) :=
  ⟨_, rfl, ⟨⟨none, 0, heap_alloc_new w _, .inl ⟨rfl, rfl, rfl⟩⟩, ⟨Nat.le_refl _, Nat.le_refl _⟩, Nat.le_refl _, Nat.le_refl _, by simp⟩, alloc_below w _⟩
set_option maxRecDepth 100000 in
theorem new_any (w : World) : Calls Tryz.prog 25 #[] w (NewT w) := by
  go_enter Tryz.func25, Tryz.ntmps25
  go_wp2_with fail
  go_ret
  exact dk_new w
theorem HeldAt.heap {w w' : World} {p g : Nat} {v : Value} {l : List UInt8} (h : HeldAt w p g v l) (e : w'.heap = w.heap) : HeldAt w' p g v l := by
  rcases h with h | ⟨hne, o, cap', hv, ho⟩
  · exact .inl h
  · exact .inr ⟨hne, o, cap', hv, ho.keep (by rw [e]; exact Nat.le_refl _) (by rw [e])⟩
theorem Dk.heap {w w' : World} {B p g b s : Nat} {l : List UInt8} (h : Dk w B p g b s l) (e : w'.heap = w.heap) : Dk w' B p g b s l := by
  obtain ⟨A, cap, h1, h2⟩ := h.box
  exact ⟨⟨A, cap, by rw [e]; exact h1, h2.heap e⟩, h.ge, h.bs, h.se, h.small⟩
/-- a call that only looks, and may draw -/
def LooksN (v : Value) (w : World) : Ending → World → Prop := fun e w' => e = .returned v ∧ ∃ n, w' = w.drewN n
/-- a call that only looks -/
def Looks (v : Value) (w : World) : Ending → World → Prop := fun e w' => e = .returned v ∧ w = w'
set_option maxRecDepth 100000 in
theorem begin_any {w : World} {B p g b s : Nat} {l : List UInt8} (h : Dk w B p g b s l) : Calls Tryz.prog 73 #[.pointer (some ⟨p, 0, none⟩)] w (Looks (.int .i64 (b : Int)) w) := by
  obtain ⟨A, cap, h1, _⟩ := h.box
  obtain ⟨x0, x1, x2⟩ := box3 h1
  clear h1 h
  go_enter Tryz.func73, Tryz.ntmps73
  go_wp2_with fail
  go_ret
  exact ⟨rfl, rfl⟩
set_option maxRecDepth 100000 in
theorem end_any {w : World} {B p g b s : Nat} {l : List UInt8} (h : Dk w B p g b s l) : Calls Tryz.prog 59 #[.pointer (some ⟨p, 0, none⟩)] w (LooksN (.int .i64 ((b + l.length : Nat) : Int)) w) := by
  obtain ⟨A, cap, h1, _⟩ := h.box
  obtain ⟨x0, x1, x2⟩ := box3 h1
  have hbi : (b : Int) ≤ 100000 := by have := h.small; omega
  have hli : (l.length : Int) ≤ 100000 := by have := h.small; omega
  clear h1 h
  go_enter Tryz.func59, Tryz.ntmps59
  go_wp2_with fail
  go_quiet (fail)
  go_wp2_with fail
  go_ret
  exact ⟨by simp, _, rfl⟩
/-- what a call with an error alone answers of a disk -/
def DkT (w : World) (B p g b s : Nat) (l : List UInt8) (r : Value) (e : Ending) (w' : World) : Prop := e = .returned r ∧ Dk w' B p g b s l ∧ Only (fun k => k = p) w w'
theorem dk_safe {w : World} {B p g b s : Nat} {l : List UInt8} (h : Dk w B p g b s l) : Dk (w.setCell ⟨p, 1, none⟩ (.int .i64 ((b + l.length : Nat) : Int))) B p g b (b + l.length) l := by
  obtain ⟨A, cap, h1, h2⟩ := h.box
  refine ⟨⟨A, cap, ?_, ?_⟩, h.ge, Nat.le_add_right _ _, Nat.le_refl _, h.small⟩
  · simp [World.setCell, Array.getElem?_modify, h1]
  · exact h2.only (Only.set w p 1 _) (fun hne => hne)
set_option maxRecDepth 100000 in
theorem sync_any {w : World} {B p g b s : Nat} {l : List UInt8} (h : Dk w B p g b s l) : Calls Tryz.prog 77 #[.pointer (some ⟨p, 0, none⟩)] w (DkT w B p g b (b + l.length) l (.int .i64 0)) := by
  have HE := Lib.hid (end_any h)
  have HY := Lib.hid (fun n => And.intro (dk_safe (h.below (drewN_below w n))) ((Only.of_below (drewN_below w n)).trans (Only.set (w.drewN n) p 1 (.int .i64 ((b + l.length : Nat) : Int))) (fun _ _ e => e)))
  obtain ⟨A, cap, h1, _⟩ := h.box
  obtain ⟨x0, x1, x2⟩ := box3 h1
  have z1 := free3 h1 1
  clear h1 h
  go_enter Tryz.func77, Tryz.ntmps77
  go_wp2_with (go_at_call 59; refine HE.out.mono ?_; rintro e w2 ⟨rfl, n, rfl⟩)
  go_ret
  exact ⟨rfl, HY.out _⟩
end
end Go.Proofs.YtkohppalfcalbaaGreat
