/- Words for memory: bytes and values at an address, rows of the call's own that grow from call to call. -/
import Derived.Test.YtjfbhajaddgmpaaDoorT
import Derived.Maps.AppendAt
namespace Go.Proofs.YtjfbhajaddgmpaaDoor
open Go.RowKit

/-- l's bytes lie at A, below block B -/
def RdB (w : World) (B : Nat) (A : Option Addr) (l : List UInt8) : Prop := l ≠ [] → ∃ ad, A = some ad ∧ ad.block < B ∧ ∀ j c, l[j]? = some c → w.cell? (ad.add j) = some (.int .u8 (c.toNat : Int))
/-- l's values lie at A, below block B -/
def RdV (w : World) (B : Nat) (A : Option Addr) (l : List Val) : Prop := l ≠ [] → ∃ b o, A = some ⟨b, o, none⟩ ∧ b < B ∧ ∀ j x, l[j]? = some x → w.cell? ⟨b, o + j * 3, none⟩ = some (.int .i64 x.k) ∧ w.cell? ⟨b, o + j * 3 + 1, none⟩ = some (.int .i64 x.n) ∧ w.cell? ⟨b, o + j * 3 + 2, none⟩ = some (.string x.s)
theorem addr_add_block (a : Addr) (n : Nat) : (a.add n).block = a.block := by unfold Addr.add; split <;> rfl
theorem RdB.keep {w w' : World} {B : Nat} {A : Option Addr} {l : List UInt8} (h : RdB w B A l) (hk : ∀ k, k < B → w'.heap[k]? = w.heap[k]?) : RdB w' B A l := fun hn => by
  obtain ⟨ad, e, hb, hc⟩ := h hn
  exact ⟨ad, e, hb, fun j c hj => (World.cell?_of_block (hk _ (by rw [addr_add_block]; exact hb))).trans (hc j c hj)⟩
theorem RdV.keep {w w' : World} {B : Nat} {A : Option Addr} {l : List Val} (h : RdV w B A l) (hk : ∀ k, k < B → w'.heap[k]? = w.heap[k]?) : RdV w' B A l := fun hn => by
  obtain ⟨b, o, e, hb, hc⟩ := h hn
  have hcell : ∀ j, w'.cell? ⟨b, j, none⟩ = w.cell? ⟨b, j, none⟩ := fun j => World.cell?_of_block (hk b hb)
  exact ⟨b, o, e, hb, fun j c hj => by rw [hcell, hcell, hcell]; exact hc j c hj⟩
theorem RdB.below {w w' : World} {B C : Nat} {A : Option Addr} {l : List UInt8} (h : RdB w B A l) (hb : Below C w w') (hC : B ≤ C) : RdB w' B A l := h.keep fun k hk => hb.block k (by omega)
theorem RdV.below {w w' : World} {B C : Nat} {A : Option Addr} {l : List Val} (h : RdV w B A l) (hb : Below C w w') (hC : B ≤ C) : RdV w' B A l := h.keep fun k hk => hb.block k (by omega)
theorem RdB.nil (w : World) (B : Nat) (A : Option Addr) : RdB w B A [] := fun h => absurd rfl h
theorem RdV.nil (w : World) (B : Nat) (A : Option Addr) : RdV w B A [] := fun h => absurd rfl h
theorem RdB.more {w : World} {B C : Nat} {A : Option Addr} {l : List UInt8} (h : RdB w B A l) (hC : B ≤ C) : RdB w C A l := fun hn => by
  obtain ⟨ad, e, hb, hc⟩ := h hn
  exact ⟨ad, e, by omega, hc⟩
theorem RdV.more {w : World} {B C : Nat} {A : Option Addr} {l : List Val} (h : RdV w B A l) (hC : B ≤ C) : RdV w C A l := fun hn => by
  obtain ⟨b, o, e, hb, hc⟩ := h hn
  exact ⟨b, o, e, by omega, hc⟩
/-- one value of them, in a world in which nothing below has turned -/
theorem RdV.at_ {w w' : World} {B C k : Nat} {A : Option Addr} {l : List Val} {x : Val} (h : RdV w B A l) (hx : l[k]? = some x) (hb : Below C w w') (hC : B ≤ C) : ∃ b o, A = some ⟨b, o, none⟩ ∧ w'.cell? ⟨b, o + k * 3, none⟩ = some (.int .i64 x.k) ∧ w'.cell? ⟨b, o + k * 3 + 1, none⟩ = some (.int .i64 x.n) ∧ w'.cell? ⟨b, o + k * 3 + 2, none⟩ = some (.string x.s) := by
  obtain ⟨b, o, e, _, hc⟩ := (h.below hb hC) (fun e => by subst e; simp at hx)
  obtain ⟨c0, c1, c2⟩ := hc k x hx
  exact ⟨b, o, e, c0, c1, c2⟩
/-- a row of bytes of the call's own -/
def OwnB (w : World) (B : Nat) (v : Value) (l : List UInt8) : Prop := w.ownsRow B 5 1 v l.length (bytesV l) ∧ ∃ A cap, v = .slice A l.length cap ∧ l.length ≤ cap
theorem OwnB.of_row {w : World} {B n : Nat} {v : Value} {l : List UInt8} (h : w.ownsRow B 5 1 v n (bytesV l)) : OwnB w B v l := by
  have hn : n = l.length := by have := h.1; rw [bytesV_len] at this; omega
  subst hn
  refine ⟨h, ?_⟩
  rcases h.2 with ⟨rfl, h0⟩ | ⟨g, cap, cur, rfl, _, _, hc, _⟩
  · exact ⟨none, 0, by rw [h0], by omega⟩
  · exact ⟨_, _, rfl, hc⟩
theorem OwnB.nil (w : World) (B : Nat) : OwnB w B (.slice none 0 0) [] := OwnB.of_row (n := 0) ⟨by simp [bytesV], .inl ⟨rfl, rfl⟩⟩
theorem OwnB.below {w w' : World} {B : Nat} {v : Value} {l : List UInt8} (h : OwnB w B v l) (hb : Below w.heap.size w w') : OwnB w' B v l := ⟨own_below h.1 hb, h.2⟩
/-- what a call that appends leaves: the old row's block alone may have turned; the new row lies there, or in a new block -/
structure Grew (w : World) (v : Value) (w' : World) (v' : Value) : Prop where
  by_ : w.grownBy w' v.ownBlock
  at_ : v'.ownBlock = v.ownBlock ∨ ∀ k, v'.ownBlock = some k → w.heap.size ≤ k
theorem Grew.refl (w : World) (v : Value) : Grew w v w v := ⟨⟨rfl, rfl, rfl, Nat.le_refl _, fun _ _ _ => rfl⟩, .inl rfl⟩
theorem Grew.trans {w w1 w2 : World} {v v1 v2 : Value} (h : Grew w v w1 v1) (k : Grew w1 v1 w2 v2) : Grew w v w2 v2 := by
  obtain ⟨g1, a1⟩ := h
  obtain ⟨g2, a2⟩ := k
  refine ⟨⟨g2.os.trans g1.os, g2.tape.trans g1.tape, g2.output.trans g1.output, Nat.le_trans g1.size g2.size, fun b hb hne => ?_⟩, ?_⟩
  · have hb1 := g1.block b hb hne
    have hlt := g1.size
    refine (g2.block b (by omega) (fun e => ?_)).trans hb1
    rcases a1 with a1 | a1
    · exact hne (e.trans a1)
    · have := a1 b e.symm
      omega
  · rcases a2 with a2 | a2
    · rcases a1 with a1 | a1
      · exact .inl (a2.trans a1)
      · exact .inr fun b e => a1 b (a2.symm.trans e)
    · exact .inr fun b e => by have := a2 b e; have := g1.size; omega
/-- a step in which nothing that was there turns -/
theorem Grew.below {w w1 : World} {v : Value} (h : Below w.heap.size w w1) : Grew w v w1 v := ⟨⟨h.os, h.tape, h.output, h.size, fun k hk _ => h.block k hk⟩, .inl rfl⟩
end Go.Proofs.YtjfbhajaddgmpaaDoor
