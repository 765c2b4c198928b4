/- A table's script as an argument. -/
import Derived.Test.YtfmhijaljlmgaaaYD
import Derived.Test.YtfmhijaljlmgaaaPZ
namespace Go.Proofs.Ytfmhijaljlmgaaa
open Go.ChangeShapes Go.WideShapes Go.ChangeAt Go.RowKit Go.Deep

section
variable {H : Type} {enc : TypeId × Value → H} {W : World}
set_option maxRecDepth 100000 in
/-- three cells that read as an act -/
theorem act8_cells {base n : Nat} {cs : List Value} {y : DataW H × List MemPlace} (hb0 : base = 0) (h : DataW.trod enc Try.prog W base (fun _ => true) true n 31 cs = some y) :
    ∃ x : Act8, cs = [.int .i64 x.k, .slice x.A x.l.length x.ac, .slice x.B x.m.length x.bc] ∧ x.ok W W.heap.size := by
  subst hb0
  obtain ⟨xs, m, _, _, hlen, hxl, hf⟩ := DataW.trod_struct Try.underlying31 h
  have hC : Try.prog.cellsOf 31 = 3 := by kernel_rfl
  rw [hC] at hlen
  match cs, hlen, xs, hxl with
  | [c0, c1, c2], _, [y0, y1, y2], _ =>
    have g0 := hf 0 _ rfl
    have g1 := hf 1 _ rfl
    have g2 := hf 2 _ rfl
    have k0 : Try.prog.cellsOf 3 = 1 := by kernel_rfl
    have k1 : Try.prog.cellsOf 23 = 1 := by kernel_rfl
    simp [k0, k1] at g0 g1 g2
    obtain ⟨a, e0, _, w0⟩ := DataW.trod_int Try.underlying3 g0
    obtain ⟨A, l, ac, e1, hr1, hc1, hm1⟩ := bytes_cells g1
    obtain ⟨B, m, bc, e2, hr2, hc2, hm2⟩ := bytes_cells g2
    simp at e0 e1 e2
    subst e0 e1 e2
    exact ⟨⟨a, A, l, ac, B, m, bc⟩, rfl, wf_i64 w0, hr1, hc1, hm1, hr2, hc2, hm2⟩
set_option maxRecDepth 100000 in
/-- acts as an argument -/
theorem open_acts8 {v : Value} {d : DataW H} {p : List MemPlace} {base : Nat} (hv : Value.okWide Try.prog W .any base 22 v) (h : DataW.Trod enc Try.prog W 0 (fun _ => true) true 22 v d p) :
    ∃ (A : Option Addr) (l : List Act8) (cap : Nat), v = .slice A l.length cap ∧ RdA8 W W.heap.size A l ∧ (∀ x ∈ l, x.ok W W.heap.size) ∧ l.length ≤ cap ∧ cap ≤ maxLen := by
  obtain ⟨a0, len, cap, rfl⟩ := okWide_slice Try.underlying22 hv
  obtain ⟨fuel, hf⟩ := h
  rcases open_slice Try.underlying22 hf with ⟨hcs, _⟩ | ⟨a, len', cap', m, n, D, Pl, hcs, _, hl, hm, hmm, _, hi⟩
  · simp [Value.cells] at hcs
    obtain ⟨rfl, rfl, rfl⟩ := hcs
    exact ⟨none, [], 0, rfl, fun h => absurd rfl h, fun x hx => by simp at hx, Nat.le_refl _, Nat.zero_le _⟩
  · simp [Value.cells] at hcs
    obtain ⟨rfl, rfl, rfl⟩ := hcs
    simp only [if_true] at hmm
    subst hmm
    have hC : Try.prog.cellsOf 31 = 3 := by kernel_rfl
    have each : ∀ i, i < len → ∃ x : Act8, (W.cell? (a.add (i * 3)) = some (.int .i64 x.k) ∧ W.cell? ((a.add (i * 3)).add 1) = some (.slice x.A x.l.length x.ac) ∧ W.cell? ((a.add (i * 3)).add 2) = some (.slice x.B x.m.length x.bc)) ∧ x.ok W W.heap.size := by
      intro i hil
      obtain ⟨cs', h1, h2⟩ := hi i (by omega)
      rw [hC] at h1
      obtain ⟨_, _, hat⟩ := World.cells?_some h1
      obtain ⟨x, rfl, hx⟩ := act8_cells rfl h2
      have a0 := hat 0 (by omega)
      rw [Addr.add_zero'] at a0
      exact ⟨x, ⟨a0, hat 1 (by omega), hat 2 (by omega)⟩, hx⟩
    obtain ⟨q, hq⟩ := family each
    have hlen : ((List.range len).map q).length = len := by simp
    have hget : ∀ (j : Nat) (x : Act8), ((List.range len).map q)[j]? = some x → j < len ∧ x = q j := by
      intro j x hj
      rw [List.getElem?_map, Option.map_eq_some_iff] at hj
      obtain ⟨i, hi1, rfl⟩ := hj
      have h2 := List.getElem?_eq_some_iff.1 hi1
      obtain ⟨h3, h4⟩ := h2
      simp at h3 h4
      subst h4
      exact ⟨h3, rfl⟩
    refine ⟨some a, (List.range len).map q, m, by rw [hlen], ?_, ?_, by rw [hlen]; exact hl, hm⟩
    · intro hn
      have hpos : 0 < len := by
        rcases Nat.eq_zero_or_pos len with h0 | h0
        · subst h0; simp at hn
        · exact h0
      obtain ⟨⟨c0, _, _⟩, _⟩ := hq 0 hpos
      rw [Nat.zero_mul, Addr.add_zero'] at c0
      obtain ⟨b, o, sp⟩ := a
      have hsp : sp = none := World.cell?_spot c0
      subst hsp
      refine ⟨b, o, rfl, cell_lt c0, fun j x hj => ?_⟩
      obtain ⟨hjl, rfl⟩ := hget j x hj
      obtain ⟨⟨d0, d1, d2⟩, _⟩ := hq j hjl
      rw [Addr.add_lit] at d0
      rw [Addr.add_lit, Addr.add_lit] at d1 d2
      exact ⟨d0, d1, d2⟩
    · intro x hx
      obtain ⟨j, hj⟩ := List.getElem?_of_mem hx
      obtain ⟨hjl, rfl⟩ := hget j x hj
      exact (hq j hjl).2
end
end Go.Proofs.Ytfmhijaljlmgaaa
