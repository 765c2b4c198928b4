/- A letter as an argument. -/
import Derived.Test.YtkohppalfcalbaaGreatZB
import Derived.Test.YtkohppalfcalbaaGreatKR1
namespace Go.Proofs.YtkohppalfcalbaaGreat
open Go.ChangeShapes Go.WideShapes Go.ChangeAt Go.RowKit Go.Deep

theorem array5 {α : Type} {cs : Array α} (h : cs.size = 5) : ∃ c0 c1 c2 c3 c4, cs = #[c0, c1, c2, c3, c4] := by
  obtain ⟨l⟩ := cs
  match l, h with
  | [c0, c1, c2, c3, c4], _ => exact ⟨c0, c1, c2, c3, c4, rfl⟩
theorem list5 {α : Type} {l : List α} (h : l.length = 5) : ∃ c0 c1 c2 c3 c4, l = [c0, c1, c2, c3, c4] := by
  match l, h with
  | [c0, c1, c2, c3, c4], _ => exact ⟨c0, c1, c2, c3, c4, rfl⟩
/-- a letter, as it lies -/
structure LtrA where
  l : Ltr
  A : Option Addr
  cap : Nat
def LtrA.v (a : LtrA) : Value := .agg #[.int .i64 a.l.k, .int .i64 a.l.f, .int .i64 a.l.t, .int .i64 a.l.x, .slice a.A a.l.ns.length a.cap]
structure LtrA.ok (w : World) (B : Nat) (a : LtrA) : Prop where
  k : i64ok a.l.k
  f : i64ok a.l.f
  t : i64ok a.l.t
  x : i64ok a.l.x
  rd : RdI w B a.A a.l.ns
  cap : a.l.ns.length ≤ a.cap
  most : a.cap ≤ maxLen
section
variable {H : Type} {enc : TypeId × Value → H} {W : World}
set_option maxRecDepth 100000 in
/-- numbers, by their cell -/
theorem ints_cells {n : Nat} {cs : List Value} {y : DataW H × List MemPlace} (h : DataW.trod enc Tryz.prog W 0 (fun _ => true) true n 41 cs = some y) :
    ∃ (A : Option Addr) (l : List Int) (cap : Nat), cs = [.slice A l.length cap] ∧ RdI W W.heap.size A l ∧ l.length ≤ cap ∧ cap ≤ maxLen := by
  rcases open_ints Tryz.underlying41 Tryz.underlying3 (by kernel_rfl) h with ⟨hcs, _⟩ | ⟨a, len, cap, zs, hcs, _, hl, hm, hz, _, hcell, _⟩
  · exact ⟨none, [], 0, hcs, RdI.nil _ _ _, Nat.le_refl _, Nat.zero_le _⟩
  · simp only [if_true] at hz
    have hlen : (zs.take len).length = len := by rw [List.length_take]; omega
    refine ⟨some a, zs.take len, cap, by rw [hlen]; exact hcs, ?_, by rw [hlen]; exact hl, hm⟩
    intro hn
    have hpos : 0 < len := by
      rcases Nat.eq_zero_or_pos len with h0 | h0
      · subst h0; simp at hn
      · exact h0
    have c0 := hcell 0 (by omega)
    rw [Addr.add_zero'] at c0
    obtain ⟨b, o, sp⟩ := a
    have hsp : sp = none := World.cell?_spot c0
    subst hsp
    refine ⟨b, o, rfl, cell_lt c0, fun j c hj => ?_⟩
    rw [List.getElem?_take] at hj
    split at hj
    · next hjl =>
      have h2 := hcell j (by omega)
      rw [Addr.add_lit, List.getD_eq_getElem?_getD, hj] at h2
      exact h2
    · cases hj
set_option maxRecDepth 100000 in
/-- a letter as an argument -/
theorem open_ltr {v : Value} {d : DataW H} {p : List MemPlace} {base : Nat} (hv : Value.okWide Tryz.prog W .any base 56 v) (h : DataW.Trod enc Tryz.prog W 0 (fun _ => true) true 56 v d p) : ∃ x : LtrA, v = x.v ∧ x.ok W W.heap.size := by
  obtain ⟨cs, rfl, hsz⟩ := okWide_struct Tryz.underlying56 hv
  have hC : Tryz.prog.cellsOf 56 = 5 := by kernel_rfl
  obtain ⟨c0, c1, c2, c3, c4, rfl⟩ := array5 (hsz.trans hC)
  obtain ⟨fuel, hf⟩ := h
  obtain ⟨xs, m, _, _, hlen, hxl, hx⟩ := DataW.trod_struct Tryz.underlying56 hf
  obtain ⟨y0, y1, y2, y3, y4, rfl⟩ := list5 hxl
  have g0 := hx 0 _ rfl
  have g1 := hx 1 _ rfl
  have g2 := hx 2 _ rfl
  have g3 := hx 3 _ rfl
  have g4 := hx 4 _ rfl
  have k0 : Tryz.prog.cellsOf 3 = 1 := by kernel_rfl
  have k1 : Tryz.prog.cellsOf 41 = 1 := by kernel_rfl
  have k2 : Tryz.prog.cellsOf 54 = 1 := by kernel_rfl
  simp [k0, k1, k2, Value.cells] at g0 g1 g2 g3 g4
  obtain ⟨a0, e0, _, w0⟩ := DataW.trod_int Tryz.underlying54 g0
  obtain ⟨a1, e1, _, w1⟩ := DataW.trod_int Tryz.underlying3 g1
  obtain ⟨a2, e2, _, w2⟩ := DataW.trod_int Tryz.underlying3 g2
  obtain ⟨a3, e3, _, w3⟩ := DataW.trod_int Tryz.underlying3 g3
  obtain ⟨A, l, cap, e4, hr, hc, hm⟩ := ints_cells g4
  simp at e0 e1 e2 e3 e4
  subst e0 e1 e2 e3 e4
  exact ⟨⟨⟨a0, a1, a2, a3, l⟩, A, cap⟩, rfl, wf_i64 w0, wf_i64 w1, wf_i64 w2, wf_i64 w3, hr, hc, hm⟩
end
end Go.Proofs.YtkohppalfcalbaaGreat
