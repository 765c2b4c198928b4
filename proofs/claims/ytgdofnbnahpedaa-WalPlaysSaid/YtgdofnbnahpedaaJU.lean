/- Rows of bytes as an argument. -/
import Derived.Test.YtgdofnbnahpedaaJO
namespace Go.Proofs.Ytgdofnbnahpedaa
open Go.ChangeShapes Go.WideShapes Go.ChangeAt Go.RowKit Go.Deep

/-- bytes, as they lie -/
structure BRow where
  A : Option Addr
  l : List UInt8
  cap : Nat
instance : Inhabited BRow := ⟨⟨none, [], 0⟩⟩
structure BRow.ok (w : World) (B : Nat) (a : BRow) : Prop where
  rd : RdB w B a.A a.l
  cap : a.l.length ≤ a.cap
  most : a.cap ≤ maxLen
/-- rows of bytes that lie at A, below block B -/
def RdL (w : World) (B : Nat) (A : Option Addr) (l : List BRow) : Prop := l ≠ [] → ∃ b o, A = some ⟨b, o, none⟩ ∧ b < B ∧ ∀ j x, l[j]? = some x → w.cell? ⟨b, o + j, none⟩ = some (.slice x.A x.l.length x.cap)
theorem RdL.at_ {w w' : World} {B C k : Nat} {A : Option Addr} {l : List BRow} {x : BRow} (h : RdL w B A l) (hx : l[k]? = some x) (hb : Below C w w') (hC : B ≤ C) : ∃ b o, A = some ⟨b, o, none⟩ ∧ w'.cell? ⟨b, o + k, none⟩ = some (.slice x.A x.l.length x.cap) := by
  obtain ⟨b, o, e, hlt, hc⟩ := h (fun e => by subst e; simp at hx)
  have hcell : ∀ j, w'.cell? ⟨b, j, none⟩ = w.cell? ⟨b, j, none⟩ := fun j => World.cell?_of_block (hb.block b (by omega))
  refine ⟨b, o, e, ?_⟩
  rw [hcell]
  exact hc k x hx
section
variable {H : Type} {enc : TypeId × Value → H} {W : World}
end
end Go.Proofs.Ytgdofnbnahpedaa
