/- Bytes of the call's own from any place of a block on: appends to them, cuts of them; what a call may turn. -/
import Derived.Test.YtfmhijaljlmgaaaKJA
import Derived.ArgAppend
import Derived.Lib.SlBytesConst
import Derived.Test.YtfmhijaljlmgaaaKW
namespace Go.Proofs.Ytfmhijaljlmgaaa
section
open Go.RowKit

/-- nothing that was there turns, but for the blocks that K names -/
structure Only (K : Nat → Prop) (w w' : World) : Prop where
  os : w'.os = w.os
  tape : w'.tape = w.tape
  output : w'.output = w.output
  size : w.heap.size ≤ w'.heap.size
  block : ∀ k, k < w.heap.size → ¬ K k → w'.heap[k]? = w.heap[k]?
theorem Only.refl (K : Nat → Prop) (w : World) : Only K w w := ⟨rfl, rfl, rfl, Nat.le_refl _, fun _ _ _ => rfl⟩
theorem Only.trans {K L : Nat → Prop} {w w1 w2 : World} (h : Only K w w1) (k : Only L w1 w2) (hL : ∀ j, j < w.heap.size → L j → K j) : Only K w w2 :=
  ⟨k.os.trans h.os, k.tape.trans h.tape, k.output.trans h.output, Nat.le_trans h.size k.size, fun b hb hne => (k.block b (Nat.lt_of_lt_of_le hb h.size) (fun e => hne (hL b hb e))).trans (h.block b hb hne)⟩
theorem Only.more {K L : Nat → Prop} {w w1 : World} (h : Only K w w1) (hL : ∀ j, j < w.heap.size → K j → L j) : Only L w w1 :=
  ⟨h.os, h.tape, h.output, h.size, fun b hb hne => h.block b hb (fun e => hne (hL b hb e))⟩
theorem Only.of_below {K : Nat → Prop} {w w1 : World} (h : Below w.heap.size w w1) : Only K w w1 := ⟨h.os, h.tape, h.output, h.size, fun b hb _ => h.block b hb⟩
theorem Only.below {K : Nat → Prop} {w w1 : World} {B : Nat} (h : Only K w w1) (hB : B ≤ w.heap.size) (hK : ∀ j, K j → B ≤ j) : Below B w w1 :=
  ⟨h.os, h.tape, h.output, h.size, fun b hb => h.block b (by omega) (fun e => by have := hK b e; omega)⟩
theorem Only.of_grown {w w1 : World} {r : Option Nat} (h : w.grownBy w1 r) : Only (fun k => some k = r) w w1 := ⟨h.os, h.tape, h.output, h.size, fun b hb hne => h.block b hb hne⟩
theorem Only.set (w : World) (g i : Nat) (v : Value) : Only (· = g) w (w.setCell ⟨g, i, none⟩ v) := by
  refine ⟨by simp [World.setCell], by simp [World.setCell], by simp [World.setCell], by simp [World.setCell], fun b hb hne => ?_⟩
  have : ¬ g = b := fun e => hne e.symm
  simp [World.setCell, Array.getElem?_modify, this]
theorem Only.sets (g : Nat) : ∀ (vs : List Value) (o : Nat) (w : World), Only (· = g) w (w.setCells g o vs)
  | [], _, w => Only.refl _ w
  | v :: r, o, w => (Only.set w g o v).trans (Only.sets g r (o + 1) _) (fun _ _ h => h)
theorem isSome_sets (b : Nat) : ∀ (vs : List Value) (o : Nat) (w : World) (q : Addr), (w.cell? q).isSome = true → ((w.setCells b o vs).cell? q).isSome = true
  | [], _, _, _, h => h
  | v :: r, o, w, q, h => isSome_sets b r (o + 1) _ q (by
      by_cases e : (⟨b, o, none⟩ : Addr) = q
      · subst e
        obtain ⟨u, hu⟩ := Option.isSome_iff_exists.1 h
        rw [World.cell?_setCell_same _ _ _ hu]; rfl
      · rw [World.cell?_setCell_other _ _ _ _ e]; exact h)

/-- l's bytes are the call's own: in block g from place o on, with room for cap of them -/
structure OwnAt (w : World) (g o cap : Nat) (l : List UInt8) : Prop where
  lt : g < w.heap.size
  room : l.length ≤ cap
  free : ∀ j, j < cap → (w.cell? ⟨g, o + j, none⟩).isSome = true ∧ w.frozen? ⟨g, o + j, none⟩ = false
  cell : ∀ j c, l[j]? = some c → w.cell? ⟨g, o + j, none⟩ = some (.int .u8 (c.toNat : Int))
theorem OwnAt.rd {w : World} {g o cap : Nat} {l : List UInt8} (h : OwnAt w g o cap l) : RdB w w.heap.size (some ⟨g, o, none⟩) l := fun _ => ⟨_, rfl, h.lt, fun j c hj => by rw [Addr.add_lit]; exact h.cell j c hj⟩
theorem OwnAt.keep {w w' : World} {g o cap : Nat} {l : List UInt8} (h : OwnAt w g o cap l) (hs : w.heap.size ≤ w'.heap.size) (hb : w'.heap[g]? = w.heap[g]?) : OwnAt w' g o cap l :=
  ⟨Nat.lt_of_lt_of_le h.lt hs, h.room, fun j hj => by
    rw [World.cell?_of_block (a := ⟨g, o + j, none⟩) hb, World.frozen?_of_block (a := ⟨g, o + j, none⟩) hb]
    exact h.free j hj, fun j c hj => by
    rw [World.cell?_of_block (a := ⟨g, o + j, none⟩) hb]
    exact h.cell j c hj⟩
theorem OwnAt.only {K : Nat → Prop} {w w' : World} {g o cap : Nat} {l : List UInt8} (h : OwnAt w g o cap l) (hO : Only K w w') (hK : ¬ K g) : OwnAt w' g o cap l := h.keep hO.size (hO.block g h.lt hK)
theorem OwnAt.drop {w : World} {g o cap : Nat} {l : List UInt8} (h : OwnAt w g o cap l) {k : Nat} (hk : k ≤ l.length) : OwnAt w g (o + k) (cap - k) (l.drop k) := by
  refine ⟨h.lt, by have := h.room; rw [List.length_drop]; omega, fun j hj => ?_, fun j c hj => ?_⟩
  · have := h.free (k + j) (by omega)
    rwa [← Nat.add_assoc] at this
  · rw [List.getElem?_drop] at hj
    have := h.cell _ c hj
    rwa [← Nat.add_assoc] at this
theorem OwnAt.cut {w : World} {g o cap : Nat} {l : List UInt8} (h : OwnAt w g o cap l) {k : Nat} (hk : k ≤ l.length) : OwnAt w g o k (l.take k) := by
  refine ⟨h.lt, by rw [List.length_take]; omega, fun j hj => h.free j (by have := h.room; omega), fun j c hj => ?_⟩
  rw [List.getElem?_take] at hj
  split at hj
  · exact h.cell j c hj
  · cases hj
theorem OwnAt.none_ {w : World} {g o cap : Nat} {l : List UInt8} (h : OwnAt w g o cap l) : OwnAt w g o 0 [] :=
  ⟨h.lt, Nat.le_refl _, fun j hj => absurd hj (Nat.not_lt_zero _), fun j c hj => by simp at hj⟩
/-- a slice that is nil, or of the call's own bytes (in block g, which is not p) -/
def HeldAt (w : World) (p g : Nat) (v : Value) (l : List UInt8) : Prop := (v = .slice none 0 0 ∧ l = [] ∧ g = p) ∨ (g ≠ p ∧ ∃ o cap, v = .slice (some ⟨g, o, none⟩) l.length cap ∧ OwnAt w g o cap l)
theorem HeldAt.only {K : Nat → Prop} {w w' : World} {p g : Nat} {v : Value} {l : List UInt8} (h : HeldAt w p g v l) (hO : Only K w w') (hK : g ≠ p → ¬ K g) : HeldAt w' p g v l := by
  rcases h with h | ⟨hne, o, cap, hv, ho⟩
  · exact .inl h
  · exact .inr ⟨hne, o, cap, hv, ho.only hO (hK hne)⟩
theorem HeldAt.rd {w : World} {p g : Nat} {A : Option Addr} {n cap : Nat} {l : List UInt8} (h : HeldAt w p g (.slice A n cap) l) : RdB w w.heap.size A l ∧ n = l.length := by
  rcases h with ⟨e, rfl, _⟩ | ⟨_, o, cap', e, ho⟩
  · injection e with e1 e2 e3
    exact ⟨RdB.nil _ _ _, e2⟩
  · injection e with e1 e2 e3
    subst e1
    exact ⟨ho.rd, e2⟩
end

section
open Go.RowKit

theorem HeldAt.heap {w w' : World} {p g : Nat} {v : Value} {l : List UInt8} (h : HeldAt w p g v l) (e : w'.heap = w.heap) : HeldAt w' p g v l := by
  rcases h with h | ⟨hne, o, cap', hv, ho⟩
  · exact .inl h
  · exact .inr ⟨hne, o, cap', hv, ho.keep (by rw [e]; exact Nat.le_refl _) (by rw [e])⟩
/-- a call that only looks, and may draw -/
def LooksN (v : Value) (w : World) : Ending → World → Prop := fun e w' => e = .returned v ∧ ∃ n, w' = w.drewN n
/-- a call that only looks -/
def Looks (v : Value) (w : World) : Ending → World → Prop := fun e w' => e = .returned v ∧ w = w'
end

section
open Go.RowKit

theorem HeldAt.slice {w : World} {p g : Nat} {v : Value} {l : List UInt8} (h : HeldAt w p g v l) : ∃ A cap, v = .slice A l.length cap := by
  rcases h with ⟨rfl, rfl, _⟩ | ⟨_, o, cap, rfl, _⟩
  · exact ⟨_, _, rfl⟩
  · exact ⟨_, _, rfl⟩
theorem HeldAt.zero {w : World} {p g cap : Nat} {A : Option Addr} {l : List UInt8} (h : HeldAt w p g (.slice A l.length cap) l) : HeldAt w p g (.slice A 0 0) [] := by
  rcases h with ⟨e, rfl, hg⟩ | ⟨hne, o, cap', e, ho⟩
  · injection e with e1 e2 e3
    subst e1
    exact .inl ⟨rfl, rfl, hg⟩
  · injection e with e1 e2 e3
    subst e1
    exact .inr ⟨hne, o, 0, rfl, ho.none_⟩
theorem HeldAt.part {w : World} {p g cap : Nat} {A : Option Addr} {l : List UInt8} (h : HeldAt w p g (.slice A l.length cap) l) {k k2 : Nat} (hk : k ≤ k2) (hk2 : k2 ≤ l.length) : HeldAt w p g (.slice (A.map fun x => x.add k) (k2 - k) (k2 - k)) ((l.drop k).take (k2 - k)) := by
  rcases h with ⟨e, rfl, hg⟩ | ⟨hne, o, cap', e, ho⟩
  · injection e with e1 e2 e3
    subst e1
    have : k2 - k = 0 := by simp at hk2; omega
    rw [this]
    exact .inl ⟨rfl, by simp, hg⟩
  · injection e with e1 e2 e3
    subst e1 e3
    have h1 := (ho.drop (k := k) (by omega)).cut (k := k2 - k) (by rw [List.length_drop]; omega)
    have hl : ((l.drop k).take (k2 - k)).length = k2 - k := by rw [List.length_take, List.length_drop]; omega
    refine .inr ⟨hne, o + k, k2 - k, ?_, h1⟩
    rw [hl, Option.map_some, Addr.add_lit]
/-- what Clone answers -/
def CloneTo (w : World) (l : List UInt8) (e : Ending) (w' : World) : Prop := ∃ v, e = .returned v ∧ OwnB w' w.heap.size v l ∧ Below w.heap.size w w'
set_option maxRecDepth 100000 in
theorem clone_any (l : List UInt8) (a : Addr) (n cap : Nat) (hn : l.length = n) (w : World) (hl : l.length ≤ 100000) (hr : RdB w w.heap.size (some a) l) : Calls Try.prog 21 #[.slice (some a) n cap] w (CloneTo w l) := by
  subst hn
  obtain ⟨i0, hi, hz0, hz1, hz2⟩ := info_parts info8
  have hnil : ∀ (w : World) (a : Option Addr) (n c n' c' : Nat), (binOp .eql 23 (.slice a n c) (.slice none n' c')).run Try.prog w = .ok (.bool a.isNone) w := fun w a n c n' c' => Lib.run_eql_slice_nil w _ _ a n c n' c' Try.underlying23
  have HR := Lib.hid hr
  have HL : Hid (([] : List UInt8).length + l.length ≤ 1000000) := Lib.hid (by simp; omega)
  clear hr hl
  go_enter Try.func21, Try.ntmps21
  go_wp2_with (at_builtin
               have h1 := own_empty (Nat.le_refl w.heap.size) 0
               have h2 := HR.out.below (alloc_below w (.cells #[] 5)) (Nat.le_refl _)
               refine wpList_appB (xs := []) (ys := l) (B := w.heap.size) rfl _ _ 23 rfl Try.underlying23 hi hz0 hz1 hz2 rfl h1 rfl rfl h2 HL.out (by simp) ?_
               intro v5 w5 ho5 hg5
               have HY : Hid (CloneTo w l (.returned v5) w5) := Lib.hid ⟨v5, rfl, ho5, grew_below (alloc_below w (.cells #[] 5)) h1.ge hg5⟩
               clear ho5 hg5 h1 h2)
  go_ret
  exact HY.out
theorem clone_nil (n cap : Nat) (w : World) : Calls Try.prog 21 #[.slice none n cap] w (CloneTo w []) := by
  have hnil : ∀ (w : World) (a : Option Addr) (n c n' c' : Nat), (binOp .eql 23 (.slice a n c) (.slice none n' c')).run Try.prog w = .ok (.bool a.isNone) w := fun w a n c n' c' => Lib.run_eql_slice_nil w _ _ a n c n' c' Try.underlying23
  go_enter Try.func21, Try.ntmps21
  go_wp2_with fail
  go_ret
  exact ⟨_, rfl, OwnB.nil _ _, Below.refl _ _⟩
end

section
open Go.RowKit

/-- bytes as they are written -/
theorem rd_lit (w : World) (l : List UInt8) (cs : Array Value) (fr : Nat × Nat) (hc : cs = (bytesV l).toArray) : RdB (w.alloc (.cells cs 5 fr)) (w.alloc (.cells cs 5 fr)).heap.size (some ⟨w.heap.size, 0, none⟩) l := fun _ => ⟨_, rfl, by simp, fun j d hj => by
  subst hc
  have hh : (w.alloc (.cells (bytesV l).toArray 5 fr)).heap[w.heap.size]? = _ := heap_alloc_new w _
  rw [add_plain, cell_of_row _ _ j _ _ fr hh]
  simp [bytesV, hj]⟩
end

section
open Go.RowKit

theorem conv_rd {w : World} {B n cap : Nat} {A : Option Addr} {l : List UInt8} (h : RdB w B A l) (hn : l.length = n) (s : ByteArray) (hs : s.data.toList = l) : (convert 23 9 (.slice A n cap)).run Try.prog w = .ok (.string s) w := by
  subst hn hs
  cases A with
  | none =>
    have : s.data.toList = [] := by
      rcases hl : s.data.toList with _ | ⟨y, t⟩
      · rfl
      · obtain ⟨_, e, _⟩ := h (by rw [hl]; simp); cases e
    have hs : s = ByteArray.empty := bytes_ext (by rw [this]; rfl)
    rw [run_convert_bytes_nil w _ _ Try.underlying23 Try.underlying5 _ _ _ Try.underlying9, hs]
  | some ad =>
    have hb := run_convert_bytes_back (P := Try.prog) w 23 9 5 ad cap s.data.toList Try.underlying23 Try.underlying5 Try.underlying9 (fun j hj => by
      obtain ⟨ad', e, _, hc⟩ := h (fun e => by rw [e] at hj; simp at hj)
      injection e with e
      subst e
      exact hc j _ (List.getElem?_eq_getElem hj))
    have e : (⟨s.data.toList.toArray⟩ : ByteArray) = s := bytes_ext (by simp)
    rw [e] at hb
    exact hb
theorem conv_ownS {w : World} {B : Nat} {v : Value} {l : List UInt8} (h : OwnB w B v l) (s : ByteArray) (hs : s.data.toList = l) : (convert 23 9 v).run Try.prog w = .ok (.string s) w := by
  have h1 := conv_own h
  have e : (⟨l.toArray⟩ : ByteArray) = s := bytes_ext (by rw [hs])
  rw [e] at h1
  exact h1
end

section
open Go.RowKit

theorem box2 {w : World} {b : Nat} {x y : Value} {t : TypeId} {fr : Nat × Nat} (h : w.heap[b]? = some (.cells #[x, y] t fr)) : w.cell? ⟨b, 0, none⟩ = some x ∧ w.cell? ⟨b, 1, none⟩ = some y := by
  simp [World.cell?, h]
theorem OwnB.heap {w w' : World} {B : Nat} {v : Value} {l : List UInt8} (h : OwnB w B v l) (e : w'.heap = w.heap) : OwnB w' B v l := by
  refine ⟨⟨h.1.1, ?_⟩, h.2⟩
  rcases h.1.2 with h1 | ⟨g, cap, cur, h1, h2, h3, h4⟩
  · exact .inl h1
  · exact .inr ⟨g, cap, cur, h1, h2, by rw [e]; exact h3, h4⟩
theorem RdB.heap {w w' : World} {B : Nat} {A : Option Addr} {l : List UInt8} (h : RdB w B A l) (e : w'.heap = w.heap) : RdB w' B A l := h.keep fun k _ => by rw [e]
theorem below_drew {w w' : World} (h : Below w.drew.heap.size w.drew w') : Below w.heap.size w w' := (drew_below w).trans h
end
end Go.Proofs.Ytfmhijaljlmgaaa
