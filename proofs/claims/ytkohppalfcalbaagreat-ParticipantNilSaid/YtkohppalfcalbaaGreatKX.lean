/- Words for memory: rows of the call's own, appends. -/
import Derived.Test.YtkohppalfcalbaaGreatA
import Derived.Deep.AppendLies
import Derived.Deep.RegionLaw
import Derived.Laws.AppendOwnNone
import Derived.StillTailTactics
import Derived.OwnWalk
import Derived.Maps.AppendAt
import Derived.Test.YtkohppalfcalbaaGreatKB
namespace Go.Proofs.YtkohppalfcalbaaGreat
section
open Go.RowKit

theorem grownBy_below {w w' : World} {row : Option Nat} (h : Below w.heap.size w w') : w.grownBy w' row := ⟨h.os, h.tape, h.output, h.size, fun k hk _ => h.block k hk⟩
def Lst (w : World) (te : TypeId) (v : Value) (xs : List Value) : Prop := w.ownsRow 0 te 1 v xs.length xs ∧ ∀ x ∈ xs, x.oneCell' = true

theorem add_plain (g j : Nat) : (⟨g, 0, none⟩ : Addr).add j = ⟨g, j, none⟩ := by unfold Addr.add; split <;> simp_all
theorem own_lit {w : World} {B g k : Nat} {cs : Array Value} {e : TypeId} (h : w.heap[g]? = some (.cells cs e (0, 0))) (hB : B ≤ g) (hk : cs.size = k) (hm : k ≤ 1000000) : w.ownsRow B e 1 (.slice (some ⟨g, 0, none⟩) k k) k cs.toList :=
  ⟨by simp [hk], .inr ⟨g, k, cs, rfl, hB, h, Nat.le_refl _, by unfold maxLen; omega, by omega, List.take_of_length_le (by simp [hk])⟩⟩
theorem Lst.kept {w w' : World} {te : TypeId} {v : Value} {xs : List Value} {row : Option Nat} (h : Lst w te v xs) (hg : w.grownBy w' row) (hne : v.ownBlock = none ∨ v.ownBlock ≠ row) : Lst w' te v xs := ⟨h.1.kept hg hne, h.2⟩
theorem Lst.below {w w' : World} {te : TypeId} {v : Value} {xs : List Value} (h : Lst w te v xs) (hb : Below w.heap.size w w') : Lst w' te v xs := h.kept (grownBy_below (row := none) hb) (by cases hv : v.ownBlock <;> simp)

theorem own_below {w w' : World} {B n s : Nat} {e : TypeId} {v : Value} {xs : List Value} (h : w.ownsRow B e s v n xs) (hb : Below w.heap.size w w') : w'.ownsRow B e s v n xs := h.kept (grownBy_below (row := none) hb) (by cases hv : v.ownBlock <;> simp)
theorem info8 : (Tryz.prog.info? 5).map (fun i => (i.zero, i.size, i.bytes)) = some (some (.int .u8 0), 1, 1) := by kernel_rfl
def bytesV (l : List UInt8) : List Value := l.map fun b => .int .u8 (b.toNat : Int)
theorem bytesV_len (l : List UInt8) : (bytesV l).length = l.length := by simp [bytesV]
end

section
open Go.RowKit

/-- l's bytes lie at A, below block B -/
def RdB (w : World) (B : Nat) (A : Option Addr) (l : List UInt8) : Prop := l ≠ [] → ∃ ad, A = some ad ∧ ad.block < B ∧ ∀ j c, l[j]? = some c → w.cell? (ad.add j) = some (.int .u8 (c.toNat : Int))
/-- l's values lie at A, below block B -/
def RdV (w : World) (B : Nat) (A : Option Addr) (l : List Val) : Prop := l ≠ [] → ∃ b o, A = some ⟨b, o, none⟩ ∧ b < B ∧ ∀ j x, l[j]? = some x → w.cell? ⟨b, o + j * 3, none⟩ = some (.int .i64 x.k) ∧ w.cell? ⟨b, o + j * 3 + 1, none⟩ = some (.int .i64 x.n) ∧ w.cell? ⟨b, o + j * 3 + 2, none⟩ = some (.string x.s)
theorem addr_add_add (a : Addr) (i j : Nat) : (a.add i).add j = a.add (i + j) := by
  unfold Addr.add
  by_cases hi : i = 0 <;> by_cases hj : j = 0 <;> simp [hi, hj, Nat.add_assoc]
theorem addr_add_block (a : Addr) (n : Nat) : (a.add n).block = a.block := by unfold Addr.add; split <;> rfl
theorem RdB.keep {w w' : World} {B : Nat} {A : Option Addr} {l : List UInt8} (h : RdB w B A l) (hk : ∀ k, k < B → w'.heap[k]? = w.heap[k]?) : RdB w' B A l := fun hn => by
  obtain ⟨ad, e, hb, hc⟩ := h hn
  exact ⟨ad, e, hb, fun j c hj => (World.cell?_of_block (hk _ (by rw [addr_add_block]; exact hb))).trans (hc j c hj)⟩
theorem RdV.keep {w w' : World} {B : Nat} {A : Option Addr} {l : List Val} (h : RdV w B A l) (hk : ∀ k, k < B → w'.heap[k]? = w.heap[k]?) : RdV w' B A l := fun hn => by
  obtain ⟨b, o, e, hb, hc⟩ := h hn
  have hcell : ∀ j, w'.cell? ⟨b, j, none⟩ = w.cell? ⟨b, j, none⟩ := fun j => World.cell?_of_block (hk b hb)
  exact ⟨b, o, e, hb, fun j c hj => by rw [hcell, hcell, hcell]; exact hc j c hj⟩
theorem RdB.below {w w' : World} {B C : Nat} {A : Option Addr} {l : List UInt8} (h : RdB w B A l) (hb : Below C w w') (hC : B ≤ C) : RdB w' B A l := h.keep fun k hk => hb.block k (by omega)
theorem RdV.below {w w' : World} {B C : Nat} {A : Option Addr} {l : List Val} (h : RdV w B A l) (hb : Below C w w') (hC : B ≤ C) : RdV w' B A l := h.keep fun k hk => hb.block k (by omega)
theorem RdB.nil (w : World) (B : Nat) (A : Option Addr) : RdB w B A [] := fun h => absurd rfl h
theorem RdV.nil (w : World) (B : Nat) (A : Option Addr) : RdV w B A [] := fun h => absurd rfl h
theorem RdB.more {w : World} {B C : Nat} {A : Option Addr} {l : List UInt8} (h : RdB w B A l) (hC : B ≤ C) : RdB w C A l := fun hn => by
  obtain ⟨ad, e, hb, hc⟩ := h hn
  exact ⟨ad, e, by omega, hc⟩
theorem RdV.more {w : World} {B C : Nat} {A : Option Addr} {l : List Val} (h : RdV w B A l) (hC : B ≤ C) : RdV w C A l := fun hn => by
  obtain ⟨b, o, e, hb, hc⟩ := h hn
  exact ⟨b, o, e, by omega, hc⟩
theorem RdB.take {w : World} {B : Nat} {A : Option Addr} {l : List UInt8} (h : RdB w B A l) (n : Nat) : RdB w B A (l.take n) := fun hn => by
  obtain ⟨ad, e, hb, hc⟩ := h (fun h0 => hn (by rw [h0, List.take_nil]))
  exact ⟨ad, e, hb, fun j c hj => hc j c (by rw [List.getElem?_take] at hj; split at hj; exact hj; cases hj)⟩
theorem RdV.take {w : World} {B : Nat} {A : Option Addr} {l : List Val} (h : RdV w B A l) (n : Nat) : RdV w B A (l.take n) := fun hn => by
  obtain ⟨b, o, e, hb, hc⟩ := h (fun h0 => hn (by rw [h0, List.take_nil]))
  exact ⟨b, o, e, hb, fun j c hj => hc j c (by rw [List.getElem?_take] at hj; split at hj; exact hj; cases hj)⟩
/-- one value of them, in a world in which nothing below has turned -/
theorem RdV.at_ {w w' : World} {B C k : Nat} {A : Option Addr} {l : List Val} {x : Val} (h : RdV w B A l) (hx : l[k]? = some x) (hb : Below C w w') (hC : B ≤ C) : ∃ b o, A = some ⟨b, o, none⟩ ∧ w'.cell? ⟨b, o + k * 3, none⟩ = some (.int .i64 x.k) ∧ w'.cell? ⟨b, o + k * 3 + 1, none⟩ = some (.int .i64 x.n) ∧ w'.cell? ⟨b, o + k * 3 + 2, none⟩ = some (.string x.s) := by
  obtain ⟨b, o, e, _, hc⟩ := (h.below hb hC) (fun e => by subst e; simp at hx)
  obtain ⟨c0, c1, c2⟩ := hc k x hx
  exact ⟨b, o, e, c0, c1, c2⟩
/-- a cut off the front: the address is as the model says -/
theorem RdB.drop {w : World} {B : Nat} {A : Option Addr} {l : List UInt8} (h : RdB w B A l) {k cap : Nat} (hc : l.length ≤ cap) : RdB w B (if cap = k then A else A.map (·.add k)) (l.drop k) := fun hn => by
  have hk : k < l.length := by
    rcases Nat.lt_or_ge k l.length with h1 | h1
    · exact h1
    · exact absurd (List.drop_eq_nil_of_le h1) hn
  obtain ⟨ad, rfl, hb, hcell⟩ := h (fun h0 => hn (by rw [h0, List.drop_nil]))
  rw [if_neg (by omega)]
  refine ⟨ad.add k, rfl, by rw [addr_add_block]; exact hb, fun j c hj => ?_⟩
  rw [addr_add_add]
  exact hcell _ c (by rw [← hj, List.getElem?_drop])
/-- a row of bytes of the call's own -/
def OwnB (w : World) (B : Nat) (v : Value) (l : List UInt8) : Prop := w.ownsRow B 5 1 v l.length (bytesV l) ∧ ∃ A cap, v = .slice A l.length cap ∧ l.length ≤ cap
theorem OwnB.of_row {w : World} {B n : Nat} {v : Value} {l : List UInt8} (h : w.ownsRow B 5 1 v n (bytesV l)) : OwnB w B v l := by
  have hn : n = l.length := by have := h.1; rw [bytesV_len] at this; omega
  subst hn
  refine ⟨h, ?_⟩
  rcases h.2 with ⟨rfl, h0⟩ | ⟨g, cap, cur, rfl, _, _, hc, _⟩
  · exact ⟨none, 0, by rw [h0], by omega⟩
  · exact ⟨_, _, rfl, hc⟩
theorem OwnB.nil (w : World) (B : Nat) : OwnB w B (.slice none 0 0) [] := OwnB.of_row (n := 0) ⟨by simp [bytesV], .inl ⟨rfl, rfl⟩⟩
theorem OwnB.below {w w' : World} {B : Nat} {v : Value} {l : List UInt8} (h : OwnB w B v l) (hb : Below w.heap.size w w') : OwnB w' B v l := ⟨own_below h.1 hb, h.2⟩
theorem OwnB.rd {w : World} {B : Nat} {A : Option Addr} {n cap : Nat} {l : List UInt8} (h : OwnB w B (.slice A n cap) l) : RdB w w.heap.size A l := fun hn => by
  rcases h.1.2 with ⟨_, h0⟩ | ⟨g, c, cur, e, _, hh, _, _, _, ht⟩
  · exact absurd (List.length_eq_zero_iff.1 h0) hn
  · injection e with e1
    subst e1
    refine ⟨_, rfl, (Array.getElem?_eq_some_iff.1 hh).1, fun j c hj => ?_⟩
    have h2 := h.1.cells (g := g) rfl j (.int .u8 (c.toNat : Int)) (by simp [bytesV, hj])
    exact h2
/-- what a call that appends leaves: the old row's block alone may have turned; the new row lies there, or in a new block -/
structure Grew (w : World) (v : Value) (w' : World) (v' : Value) : Prop where
  by_ : w.grownBy w' v.ownBlock
  at_ : v'.ownBlock = v.ownBlock ∨ ∀ k, v'.ownBlock = some k → w.heap.size ≤ k
theorem Grew.refl (w : World) (v : Value) : Grew w v w v := ⟨⟨rfl, rfl, rfl, Nat.le_refl _, fun _ _ _ => rfl⟩, .inl rfl⟩
theorem Grew.trans {w w1 w2 : World} {v v1 v2 : Value} (h : Grew w v w1 v1) (k : Grew w1 v1 w2 v2) : Grew w v w2 v2 := by
  obtain ⟨g1, a1⟩ := h
  obtain ⟨g2, a2⟩ := k
  refine ⟨⟨g2.os.trans g1.os, g2.tape.trans g1.tape, g2.output.trans g1.output, Nat.le_trans g1.size g2.size, fun b hb hne => ?_⟩, ?_⟩
  · have hb1 := g1.block b hb hne
    have hlt := g1.size
    refine (g2.block b (by omega) (fun e => ?_)).trans hb1
    rcases a1 with a1 | a1
    · exact hne (e.trans a1)
    · have := a1 b e.symm
      omega
  · rcases a2 with a2 | a2
    · rcases a1 with a1 | a1
      · exact .inl (a2.trans a1)
      · exact .inr fun b e => a1 b (a2.symm.trans e)
    · exact .inr fun b e => by have := a2 b e; have := g1.size; omega
/-- a step in which nothing that was there turns -/
theorem Grew.below {w w1 : World} {v : Value} (h : Below w.heap.size w w1) : Grew w v w1 v := ⟨⟨h.os, h.tape, h.output, h.size, fun k hk _ => h.block k hk⟩, .inl rfl⟩
theorem Grew.toBelow {w w' : World} {B : Nat} {v v' : Value} (h : Grew w v w' v') (hB : B ≤ w.heap.size) (hv : ∀ k, v.ownBlock = some k → B ≤ k) : Below B w w' :=
  ⟨h.by_.os, h.by_.tape, h.by_.output, h.by_.size, fun k hk => h.by_.block k (by omega) (fun e => by have := hv k e.symm; omega)⟩
theorem OwnB.ge {w : World} {B : Nat} {v : Value} {l : List UInt8} (h : OwnB w B v l) : ∀ k, v.ownBlock = some k → B ≤ k := by
  rcases h.1.2 with ⟨rfl, _⟩ | ⟨g, c, cur, rfl, hg, _⟩
  · intro k e; cases e
  · intro k e
    have : g = k := by simpa [Value.ownBlock] using e
    omega
/-- what an append law leaves, in these words -/
theorem grew_of {w w' : World} {v v' : Value} (h : w.grownBy w' v.ownBlock) (ha : v'.ownBlock = v.ownBlock ∨ v'.ownBlock = some w.heap.size) : Grew w v w' v' :=
  ⟨h, ha.imp id fun e k hk => by rw [e] at hk; injection hk with hk; omega⟩
theorem bytesV_one (l : List UInt8) : ∀ u ∈ bytesV l, u.oneCell' = true := by
  intro u hu
  simp only [bytesV, List.mem_map] at hu
  obtain ⟨b, _, rfl⟩ := hu
  rfl
theorem bytesV_app (a b : List UInt8) : bytesV (a ++ b) = bytesV a ++ bytesV b := by simp [bytesV]
/-- append, whatever the source: nil, empty, at an address -/
theorem run_appendB {P : Program} {w : World} (t ty : TypeId) {i0 : TypeInfo} {B : Nat} (ht : P.underlying t = some (.slice 5)) (hi : P.info? 5 = some i0) (hz : i0.zero = some (.int .u8 0)) (hs : i0.size = 1) (hb : i0.bytes = 1)
    {v : Value} {xs : List UInt8} (hown : OwnB w B v xs) {A : Option Addr} {C c : Nat} {ys : List UInt8} (hr : RdB w C A ys) (h63 : xs.length + ys.length ≤ 1000000) (hbase : B ≤ w.heap.size) :
    ∃ v' w', (Builtin.append_ #[t, t] ty #[v, .slice A ys.length c]).run P w = .ok v' w' ∧ OwnB w' B v' (xs ++ ys) ∧ Grew w v w' v' := by
  rcases A with _ | ad
  · have hy : ys = [] := by
      rcases ys with _ | ⟨y, ys⟩
      · rfl
      · obtain ⟨_, h, _⟩ := hr (by simp); cases h
    subst hy
    have hrun : (Builtin.append_ #[t, t] ty #[v, .slice none 0 c]).run P w = .ok v w := by
      rcases hown.1.2 with ⟨rfl, _⟩ | ⟨g, cap, cur, rfl, _, _, hnc, _⟩
      · simp [Builtin.append_, run_underlying ht, sizeOf, typeInfo, hi, Builtin.lenOf, Builtin.firstCells]
      · simp [Builtin.append_, run_underlying ht, sizeOf, typeInfo, hi, Builtin.lenOf, Builtin.firstCells, hnc, storeCells]
    exact ⟨v, w, hrun, by simpa using hown, Grew.refl w v⟩
  · have hcells : ∀ j u, (bytesV ys)[j]? = some u → w.cell? (ad.add j) = some u := by
      intro j u hu
      have hn : ys ≠ [] := fun e => by subst e; simp [bytesV] at hu
      obtain ⟨ad', h, _, hc⟩ := hr hn
      injection h with h
      subst h
      simp only [bytesV, List.getElem?_map, Option.map_eq_some_iff] at hu
      obtain ⟨b, hb1, rfl⟩ := hu
      exact hc j b hb1
    obtain ⟨v', w', hrun, h2, h3, _, h5⟩ := run_append_own_at (P := P) w B t ty 5 i0 (.int .u8 0) 1 1 ht hi hz hs hb rfl (by omega) v xs.length (bytesV xs) hown.1 ad ys.length c (bytesV ys) (by simp [bytesV]) hcells (bytesV_one ys) (by unfold maxLen; omega) (by omega) hbase
    rw [← bytesV_app] at h2
    exact ⟨v', w', hrun, OwnB.of_row h2, grew_of h3 h5⟩
theorem wp_appB {P : Program} {w : World} {o : Oper} {a : Act} {K : Act → World → Prop} {Q : Exit → Act → World → Prop} (s x : Operand) (t : TypeId) (ho : o.op = .call { callee := .builtin .append, args := #[s, x], argTypes := #[t, t] })
    {i0 : TypeInfo} {B : Nat} (ht : P.underlying t = some (.slice 5)) (hi : P.info? 5 = some i0) (hz : i0.zero = some (.int .u8 0)) (hs : i0.size = 1) (hb : i0.bytes = 1)
    {v : Value} {xs : List UInt8} (hv : a.eval s = v) (hown : OwnB w B v xs) {A : Option Addr} {C c n : Nat} {ys : List UInt8} (hx : a.eval x = .slice A n c) (hn : ys.length = n) (hr : RdB w C A ys) (h63 : xs.length + ys.length ≤ 1000000) (hbase : B ≤ w.heap.size)
    (h : ∀ v' w', OwnB w' B v' (xs ++ ys) → Grew w v w' v' → K (a.put o.dst v') w') : o.wp P a w K Q := by
  subst hn
  obtain ⟨v', w', hrun, h2, h3⟩ := run_appendB (P := P) t o.type ht hi hz hs hb hown (c := c) hr h63 hbase
  unfold Oper.wp execOp
  simp only [ho, resolve, invoke, builtin, Sem.run_bind, Sem.run_pure, Result.andThen_ok, List.map_toArray, List.map_cons, List.map_nil, hv, hx, hrun]
  exact h v' w' h2 h3
/-- append, in a row of operations -/
theorem wpList_appB {P : Program} {w : World} {ops : Array Oper} {rest : List Oper} {o : Oper} {a : Act} {Q : Exit → Act → World → Prop} (hgd : o.guard = none) (s x : Operand) (t : TypeId) (ho : o.op = .call { callee := .builtin .append, args := #[s, x], argTypes := #[t, t] })
    {i0 : TypeInfo} {B : Nat} (ht : P.underlying t = some (.slice 5)) (hi : P.info? 5 = some i0) (hz : i0.zero = some (.int .u8 0)) (hs : i0.size = 1) (hb : i0.bytes = 1)
    {v : Value} {xs : List UInt8} (hv : a.eval s = v) (hown : OwnB w B v xs) {A : Option Addr} {C c n : Nat} {ys : List UInt8} (hx : a.eval x = .slice A n c) (hn : ys.length = n) (hr : RdB w C A ys) (h63 : xs.length + ys.length ≤ 1000000) (hbase : B ≤ w.heap.size)
    (h : ∀ v' w', OwnB w' B v' (xs ++ ys) → Grew w v w' v' → wpList P ops Q rest (a.put o.dst v') w') : wpList P ops Q (o :: rest) a w :=
  wpList_plain hgd fun _ hK => wp_appB s x t ho ht hi hz hs hb hv hown hx hn hr h63 hbase fun v' w' h2 h3 => hK _ _ (h v' w' h2 h3)
/-- one byte in a block of its own, to be appended -/
theorem rd_one (w : World) (x : Int) (c : UInt8) (hx : x = (c.toNat : Int)) : RdB (w.alloc (.cells #[.int .u8 x] 5)) (w.heap.size + 1) (some ⟨w.heap.size, 0, none⟩) [c] := fun _ => ⟨_, rfl, by show w.heap.size < w.heap.size + 1; omega, fun j d hj => by
  subst hx
  have hh : (w.alloc (.cells #[.int .u8 (c.toNat : Int)] 5)).heap[w.heap.size]? = _ := heap_alloc_new w _
  rw [add_plain, cell_of_row _ _ j _ _ (0, 0) hh]
  cases j with
  | zero => simp at hj; subst hj; rfl
  | succ j => simp at hj⟩
/-- as rd_one, in a block behind another new one -/
theorem rd_one2 (w : World) (o : Obj) (x : Int) (c : UInt8) (hx : x = (c.toNat : Int)) : RdB ((w.alloc o).alloc (.cells #[.int .u8 x] 5)) (w.heap.size + 1 + 1) (some ⟨w.heap.size + 1, 0, none⟩) [c] := by
  have h := rd_one (w.alloc o) x c hx
  have e : (w.alloc o).heap.size = w.heap.size + 1 := by simp
  rw [e] at h
  exact h
end

section
open Go.RowKit

/-- what a call that appends answers -/
def AppTo (B : Nat) (w : World) (v : Value) (l : List UInt8) (e : Ending) (w' : World) : Prop := ∃ v', e = .returned v' ∧ OwnB w' B v' l ∧ Grew w v w' v'
theorem AppTo.from {B : Nat} {w : World} {v : Value} {l : List UInt8} {w1 w2 : World} {v1 : Value} {e : Ending} (h1 : Grew w v w1 v1) (h : AppTo B w1 v1 l e w2) : AppTo B w v l e w2 := by
  obtain ⟨v', rfl, ho, hg⟩ := h
  exact ⟨v', rfl, ho, h1.trans hg⟩
theorem OwnB.lt {w : World} {B : Nat} {v : Value} {l : List UInt8} (h : OwnB w B v l) : ∀ k, v.ownBlock = some k → k < w.heap.size := by
  rcases h.1.2 with ⟨rfl, _⟩ | ⟨g, c, cur, rfl, _, hh, _⟩
  · intro k e; cases e
  · intro k e
    have : g = k := by simpa [Value.ownBlock] using e
    subst this
    exact (Array.getElem?_eq_some_iff.1 hh).1
theorem box_kept {w w5 : World} {B : Nat} {v v5 : Value} {l : List UInt8} {o p q : Obj} (h : OwnB w B v l) (hb : (w.alloc o).heap[w.heap.size]? = some q) (hg : Grew ((w.alloc o).alloc p) v w5 v5) : w5.heap[w.heap.size]? = some q := by
  refine (hg.by_.block w.heap.size (by simp; omega) (fun e => by have := h.lt _ e.symm; omega)).trans ?_
  rw [Below.heap_alloc _ _ _ (by simp)]
  exact hb
theorem right_at' (x : Val) (hl : x.s.size ≤ 9223372036854775807) (w : World) : Calls Tryz.prog 128 #[.agg #[.int .i64 x.k, .int .i64 x.n, .string x.s]] w (Ans (.bool (rightB x)) w) := right_any x hl w
/-- may a list be told? -/
def encOk (l : List Val) : Prop := l.length ≤ 16 ∧ ∀ x ∈ l, rightB x = true
/-- a list of values as the call takes them: numbers in their kinds, texts that are there -/
def AllOk (l : List Val) : Prop := ∀ x ∈ l, x.ok ∧ x.s.size ≤ 9223372036854775807
end

section
open Go.RowKit

theorem own_empty {w : World} {B : Nat} (h : B ≤ w.heap.size) (t : TypeId) : OwnB (w.alloc (.cells #[] 5)) B (.slice (some ⟨w.heap.size, 0, none⟩) 0 0) [] :=
  OwnB.of_row (n := 0) (l := []) (by have := t; exact own_lit (cs := #[]) (heap_alloc_new w _) h rfl (by omega))
theorem grew_below {w w1 w2 : World} {v v2 : Value} (hb : Below w.heap.size w w1) (hv : ∀ k, v.ownBlock = some k → w.heap.size ≤ k) (h : Grew w1 v w2 v2) : Below w.heap.size w w2 := hb.trans (h.toBelow hb.size hv)
/-- a row of one byte or more stands at a block's head -/
theorem OwnB.head {w : World} {B : Nat} {v : Value} {l : List UInt8} (h : OwnB w B v l) (hn : 0 < l.length) : ∃ g cap, v = .slice (some ⟨g, 0, none⟩) l.length cap ∧ B ≤ g := by
  rcases h.1.2 with ⟨_, h0⟩ | ⟨g, cap, cur, e, hg, _⟩
  · omega
  · exact ⟨g, cap, e, hg⟩
end
end Go.Proofs.YtkohppalfcalbaaGreat
