/- A net's script as an argument. -/
import Derived.Test.YthdhifnafgidaaaSS
import Derived.Test.YthdhifnafgidaaaZI
namespace Go.Proofs.Ythdhifnafgidaaa
open Go.ChangeShapes Go.WideShapes Go.ChangeAt Go.RowKit Go.Deep

/-- an act of a net's script, as it lies -/
structure ActN where
  k : Int
  n : Int
  a : LtrA
instance : Inhabited ActN := ⟨⟨0, 0, ⟨⟨0, 0, 0, 0, []⟩, none, 0⟩⟩⟩
structure ActN.ok (w : World) (C : Nat) (x : ActN) : Prop where
  k : i64ok x.k
  n : i64ok x.n
  a : x.a.ok w C
/-- acts in a row can be read -/
def RdActs (w : World) (B : Nat) (A : Option Addr) (l : List ActN) : Prop := l ≠ [] → ∃ b o, A = some ⟨b, o, none⟩ ∧ b < B ∧ ∀ j x, l[j]? = some x →
  w.cell? ⟨b, o + j * 7, none⟩ = some (.int .i64 x.k) ∧ w.cell? ⟨b, o + j * 7 + 1, none⟩ = some (.int .i64 x.n) ∧ w.cell? ⟨b, o + j * 7 + 2, none⟩ = some (.int .i64 x.a.l.k) ∧ w.cell? ⟨b, o + j * 7 + 3, none⟩ = some (.int .i64 x.a.l.f) ∧ w.cell? ⟨b, o + j * 7 + 4, none⟩ = some (.int .i64 x.a.l.t) ∧ w.cell? ⟨b, o + j * 7 + 5, none⟩ = some (.int .i64 x.a.l.x) ∧ w.cell? ⟨b, o + j * 7 + 6, none⟩ = some (.slice x.a.A x.a.l.ns.length x.a.cap)
theorem RdActs.at_ {w : World} {B : Nat} {A : Option Addr} {l : List ActN} (h : RdActs w B A l) {j : Nat} {x : ActN} (hj : l[j]? = some x) : ∃ b o, A = some ⟨b, o, none⟩ ∧ ∀ W : World, (∀ k, k < B → W.heap[k]? = w.heap[k]?) →
  W.cell? ⟨b, o + j * 7, none⟩ = some (.int .i64 x.k) ∧ W.cell? ⟨b, o + j * 7 + 1, none⟩ = some (.int .i64 x.n) ∧ W.cell? ⟨b, o + j * 7 + 2, none⟩ = some (.int .i64 x.a.l.k) ∧ W.cell? ⟨b, o + j * 7 + 3, none⟩ = some (.int .i64 x.a.l.f) ∧ W.cell? ⟨b, o + j * 7 + 4, none⟩ = some (.int .i64 x.a.l.t) ∧ W.cell? ⟨b, o + j * 7 + 5, none⟩ = some (.int .i64 x.a.l.x) ∧ W.cell? ⟨b, o + j * 7 + 6, none⟩ = some (.slice x.a.A x.a.l.ns.length x.a.cap) := by
  obtain ⟨b, o, e, hb, hc⟩ := h (by rintro rfl; simp at hj)
  obtain ⟨c0, c1, c2, c3, c4, c5, c6⟩ := hc j x hj
  exact ⟨b, o, e, fun W hW => ⟨(World.cell?_of_block (hW b hb)).trans c0, (World.cell?_of_block (hW b hb)).trans c1, (World.cell?_of_block (hW b hb)).trans c2, (World.cell?_of_block (hW b hb)).trans c3, (World.cell?_of_block (hW b hb)).trans c4, (World.cell?_of_block (hW b hb)).trans c5, (World.cell?_of_block (hW b hb)).trans c6⟩⟩
section
variable {H : Type} {enc : TypeId × Value → H} {W : World}
set_option maxRecDepth 100000 in
/-- five cells that read as a letter -/
theorem ltr_cells {n : Nat} {cs : List Value} {y : DataW H × List MemPlace} (h : DataW.trod enc Try.prog W 0 (fun _ => true) true n 32 cs = some y) :
    ∃ x : LtrA, cs = [.int .i64 x.l.k, .int .i64 x.l.f, .int .i64 x.l.t, .int .i64 x.l.x, .slice x.A x.l.ns.length x.cap] ∧ x.ok W W.heap.size := by
  obtain ⟨xs, m, _, _, hlen, hxl, hf⟩ := DataW.trod_struct Try.underlying32 h
  have hC : Try.prog.cellsOf 32 = 5 := by kernel_rfl
  rw [hC] at hlen
  match cs, hlen, xs, hxl with
  | [c0, c1, c2, c3, c4], _, [y0, y1, y2, y3, y4], _ =>
    have g0 := hf 0 _ rfl
    have g1 := hf 1 _ rfl
    have g2 := hf 2 _ rfl
    have g3 := hf 3 _ rfl
    have g4 := hf 4 _ rfl
    have k0 : Try.prog.cellsOf 3 = 1 := by kernel_rfl
    have k1 : Try.prog.cellsOf 30 = 1 := by kernel_rfl
    have k2 : Try.prog.cellsOf 29 = 1 := by kernel_rfl
    simp [k0, k1, k2] at g0 g1 g2 g3 g4
    obtain ⟨a0, e0, _, w0⟩ := DataW.trod_int Try.underlying29 g0
    obtain ⟨a1, e1, _, w1⟩ := DataW.trod_int Try.underlying3 g1
    obtain ⟨a2, e2, _, w2⟩ := DataW.trod_int Try.underlying3 g2
    obtain ⟨a3, e3, _, w3⟩ := DataW.trod_int Try.underlying3 g3
    obtain ⟨A, l, cap, e4, hr, hc, hm⟩ := ints_cells g4
    simp at e0 e1 e2 e3 e4
    subst e0 e1 e2 e3 e4
    exact ⟨⟨⟨a0, a1, a2, a3, l⟩, A, cap⟩, rfl, wf_i64 w0, wf_i64 w1, wf_i64 w2, wf_i64 w3, hr, hc, hm⟩
set_option maxRecDepth 100000 in
/-- seven cells that read as an act -/
theorem actN_cells {base n : Nat} {cs : List Value} {y : DataW H × List MemPlace} (hb0 : base = 0) (h : DataW.trod enc Try.prog W base (fun _ => true) true n 34 cs = some y) :
    ∃ x : ActN, cs = [.int .i64 x.k, .int .i64 x.n, .int .i64 x.a.l.k, .int .i64 x.a.l.f, .int .i64 x.a.l.t, .int .i64 x.a.l.x, .slice x.a.A x.a.l.ns.length x.a.cap] ∧ x.ok W W.heap.size := by
  subst hb0
  obtain ⟨xs, m, _, _, hlen, hxl, hf⟩ := DataW.trod_struct Try.underlying34 h
  have hC : Try.prog.cellsOf 34 = 7 := by kernel_rfl
  rw [hC] at hlen
  match cs, hlen, xs, hxl with
  | [c0, c1, c2, c3, c4, c5, c6], _, [y0, y1, y2], _ =>
    have g0 := hf 0 _ rfl
    have g1 := hf 1 _ rfl
    have g2 := hf 2 _ rfl
    have k0 : Try.prog.cellsOf 3 = 1 := by kernel_rfl
    have k1 : Try.prog.cellsOf 32 = 5 := by kernel_rfl
    simp [k0, k1] at g0 g1 g2
    obtain ⟨a, e0, _, w0⟩ := DataW.trod_int Try.underlying3 g0
    obtain ⟨b, e1, _, w1⟩ := DataW.trod_int Try.underlying3 g1
    obtain ⟨x, e2, hx⟩ := ltr_cells g2
    simp at e0 e1 e2
    obtain ⟨e2, e3, e4, e5, e6⟩ := e2
    subst e0 e1 e2 e3 e4 e5 e6
    exact ⟨⟨a, b, x⟩, rfl, wf_i64 w0, wf_i64 w1, hx⟩
set_option maxRecDepth 100000 in
/-- acts as an argument -/
theorem open_actsN {v : Value} {d : DataW H} {p : List MemPlace} {base : Nat} (hv : Value.okWide Try.prog W .any base 22 v) (h : DataW.Trod enc Try.prog W 0 (fun _ => true) true 22 v d p) :
    ∃ (A : Option Addr) (l : List ActN) (cap : Nat), v = .slice A l.length cap ∧ RdActs W W.heap.size A l ∧ (∀ x ∈ l, x.ok W W.heap.size) ∧ l.length ≤ cap ∧ cap ≤ maxLen := by
  obtain ⟨a0, len, cap, rfl⟩ := okWide_slice Try.underlying22 hv
  obtain ⟨fuel, hf⟩ := h
  rcases open_slice Try.underlying22 hf with ⟨hcs, _⟩ | ⟨a, len', cap', m, n, D, Pl, hcs, _, hl, hm, hmm, _, hi⟩
  · simp [Value.cells] at hcs
    obtain ⟨rfl, rfl, rfl⟩ := hcs
    exact ⟨none, [], 0, rfl, fun h => absurd rfl h, fun x hx => by simp at hx, Nat.le_refl _, Nat.zero_le _⟩
  · simp [Value.cells] at hcs
    obtain ⟨rfl, rfl, rfl⟩ := hcs
    simp only [if_true] at hmm
    subst hmm
    have hC : Try.prog.cellsOf 34 = 7 := by kernel_rfl
    have each : ∀ i, i < len → ∃ x : ActN, (W.cell? (a.add (i * 7)) = some (.int .i64 x.k) ∧ W.cell? ((a.add (i * 7)).add 1) = some (.int .i64 x.n) ∧ W.cell? ((a.add (i * 7)).add 2) = some (.int .i64 x.a.l.k) ∧ W.cell? ((a.add (i * 7)).add 3) = some (.int .i64 x.a.l.f) ∧ W.cell? ((a.add (i * 7)).add 4) = some (.int .i64 x.a.l.t) ∧ W.cell? ((a.add (i * 7)).add 5) = some (.int .i64 x.a.l.x) ∧ W.cell? ((a.add (i * 7)).add 6) = some (.slice x.a.A x.a.l.ns.length x.a.cap)) ∧ x.ok W W.heap.size := by
      intro i hil
      obtain ⟨cs', h1, h2⟩ := hi i (by omega)
      rw [hC] at h1
      obtain ⟨_, _, hat⟩ := World.cells?_some h1
      obtain ⟨x, rfl, hx⟩ := actN_cells rfl h2
      have a0 := hat 0 (by omega)
      rw [Addr.add_zero'] at a0
      exact ⟨x, ⟨a0, hat 1 (by omega), hat 2 (by omega), hat 3 (by omega), hat 4 (by omega), hat 5 (by omega), hat 6 (by omega)⟩, hx⟩
    obtain ⟨q, hq⟩ := family each
    have hlen : ((List.range len).map q).length = len := by simp
    have hget : ∀ (j : Nat) (x : ActN), ((List.range len).map q)[j]? = some x → j < len ∧ x = q j := by
      intro j x hj
      rw [List.getElem?_map, Option.map_eq_some_iff] at hj
      obtain ⟨i, hi1, rfl⟩ := hj
      have h2 := List.getElem?_eq_some_iff.1 hi1
      obtain ⟨h3, h4⟩ := h2
      simp at h3 h4
      subst h4
      exact ⟨h3, rfl⟩
    refine ⟨some a, (List.range len).map q, m, by rw [hlen], ?_, ?_, by rw [hlen]; exact hl, hm⟩
    · intro hn
      have hpos : 0 < len := by
        rcases Nat.eq_zero_or_pos len with h0 | h0
        · subst h0; simp at hn
        · exact h0
      obtain ⟨⟨c0, _⟩, _⟩ := hq 0 hpos
      rw [Nat.zero_mul, Addr.add_zero'] at c0
      obtain ⟨b, o, sp⟩ := a
      have hsp : sp = none := World.cell?_spot c0
      subst hsp
      refine ⟨b, o, rfl, cell_lt c0, fun j x hj => ?_⟩
      obtain ⟨hjl, rfl⟩ := hget j x hj
      obtain ⟨⟨d0, d1, d2, d3, d4, d5, d6⟩, _⟩ := hq j hjl
      rw [Addr.add_lit] at d0
      rw [Addr.add_lit, Addr.add_lit] at d1 d2 d3 d4 d5 d6
      exact ⟨d0, d1, d2, d3, d4, d5, d6⟩
    · intro x hx
      obtain ⟨j, hj⟩ := List.getElem?_of_mem hx
      obtain ⟨hjl, rfl⟩ := hget j x hj
      exact (hq j hjl).2
end
end Go.Proofs.Ythdhifnafgidaaa
