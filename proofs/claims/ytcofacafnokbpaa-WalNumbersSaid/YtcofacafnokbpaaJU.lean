/- Rows of bytes as an argument. -/
import Derived.Test.YtcofacafnokbpaaJO
namespace Go.Proofs.Ytcofacafnokbpaa
open Go.ChangeShapes Go.WideShapes Go.ChangeAt Go.RowKit Go.Deep

/-- bytes, as they lie -/
structure BRow where
  A : Option Addr
  l : List UInt8
  cap : Nat
instance : Inhabited BRow := ⟨⟨none, [], 0⟩⟩
structure BRow.ok (w : World) (B : Nat) (a : BRow) : Prop where
  rd : RdB w B a.A a.l
  cap : a.l.length ≤ a.cap
  most : a.cap ≤ maxLen
/-- rows of bytes that lie at A, below block B -/
def RdL (w : World) (B : Nat) (A : Option Addr) (l : List BRow) : Prop := l ≠ [] → ∃ b o, A = some ⟨b, o, none⟩ ∧ b < B ∧ ∀ j x, l[j]? = some x → w.cell? ⟨b, o + j, none⟩ = some (.slice x.A x.l.length x.cap)
theorem RdL.at_ {w w' : World} {B C k : Nat} {A : Option Addr} {l : List BRow} {x : BRow} (h : RdL w B A l) (hx : l[k]? = some x) (hb : Below C w w') (hC : B ≤ C) : ∃ b o, A = some ⟨b, o, none⟩ ∧ w'.cell? ⟨b, o + k, none⟩ = some (.slice x.A x.l.length x.cap) := by
  obtain ⟨b, o, e, hlt, hc⟩ := h (fun e => by subst e; simp at hx)
  have hcell : ∀ j, w'.cell? ⟨b, j, none⟩ = w.cell? ⟨b, j, none⟩ := fun j => World.cell?_of_block (hb.block b (by omega))
  refine ⟨b, o, e, ?_⟩
  rw [hcell]
  exact hc k x hx
section
variable {H : Type} {enc : TypeId × Value → H} {W : World}
set_option maxRecDepth 100000 in
/-- rows of bytes as an argument -/
theorem open_rows {v : Value} {d : DataW H} {p : List MemPlace} {base : Nat} (hv : Value.okWide Try.prog W .any base 66 v) (h : DataW.Trod enc Try.prog W 0 (fun _ => true) true 66 v d p) :
    ∃ (A : Option Addr) (l : List BRow) (cap : Nat), v = .slice A l.length cap ∧ RdL W W.heap.size A l ∧ (∀ x ∈ l, x.ok W W.heap.size) ∧ l.length ≤ cap ∧ cap ≤ maxLen := by
  obtain ⟨a0, len, cap, rfl⟩ := okWide_slice Try.underlying66 hv
  obtain ⟨fuel, hf⟩ := h
  rcases open_slice Try.underlying66 hf with ⟨hcs, _⟩ | ⟨a, len', cap', m, n, D, Pl, hcs, _, hl, hm, hmm, _, hi⟩
  · simp [Value.cells] at hcs
    obtain ⟨rfl, rfl, rfl⟩ := hcs
    exact ⟨none, [], 0, rfl, fun h => absurd rfl h, fun x hx => by simp at hx, Nat.le_refl _, Nat.zero_le _⟩
  · simp [Value.cells] at hcs
    obtain ⟨rfl, rfl, rfl⟩ := hcs
    simp only [if_true] at hmm
    subst hmm
    have hC : Try.prog.cellsOf 23 = 1 := by kernel_rfl
    have each : ∀ i, i < len → ∃ x : BRow, W.cell? (a.add i) = some (.slice x.A x.l.length x.cap) ∧ x.ok W W.heap.size := by
      intro i hil
      obtain ⟨cs', h1, h2⟩ := hi i (by omega)
      rw [hC, Nat.mul_one] at h1
      obtain ⟨_, _, hat⟩ := World.cells?_some h1
      obtain ⟨A, l, c, rfl, hr, hc, hm2⟩ := bytes_cells h2
      have a0 := hat 0 (by omega)
      rw [Addr.add_zero'] at a0
      exact ⟨⟨A, l, c⟩, a0, hr, hc, hm2⟩
    obtain ⟨q, hq⟩ := family each
    have hlen : ((List.range len).map q).length = len := by simp
    have hget : ∀ (j : Nat) (x : BRow), ((List.range len).map q)[j]? = some x → j < len ∧ x = q j := by
      intro j x hj
      rw [List.getElem?_map, Option.map_eq_some_iff] at hj
      obtain ⟨i, hi1, rfl⟩ := hj
      have h2 := List.getElem?_eq_some_iff.1 hi1
      obtain ⟨h3, h4⟩ := h2
      simp at h3 h4
      subst h4
      exact ⟨h3, rfl⟩
    refine ⟨some a, (List.range len).map q, m, by rw [hlen], ?_, ?_, by rw [hlen]; exact hl, hm⟩
    · intro hn
      have hpos : 0 < len := by
        rcases Nat.eq_zero_or_pos len with h0 | h0
        · subst h0; simp at hn
        · exact h0
      have c0 := (hq 0 hpos).1
      rw [Addr.add_zero'] at c0
      obtain ⟨b, o, sp⟩ := a
      have hsp : sp = none := World.cell?_spot c0
      subst hsp
      refine ⟨b, o, rfl, cell_lt c0, fun j x hj => ?_⟩
      obtain ⟨hjl, rfl⟩ := hget j x hj
      have d0 := (hq j hjl).1
      rw [Addr.add_lit] at d0
      exact d0
    · intro x hx
      obtain ⟨j, hj⟩ := List.getElem?_of_mem hx
      obtain ⟨hjl, rfl⟩ := hget j x hj
      exact (hq j hjl).2
end
end Go.Proofs.Ytcofacafnokbpaa
