/- Bools as an argument. -/
import Derived.Test.YtknolgcbaoppcaaCI
import Derived.Test.YtknolgcbaoppcaaKR
namespace Go.Proofs.Ytknolgcbaoppcaa
open Go.ChangeShapes Go.WideShapes Go.ChangeAt Go.RowKit Go.Deep
section
variable {H : Type} {enc : TypeId × Value → H} {W : World}
theorem wf_i64B {k : Int} (h : (Lit.int .i64 k).wf = true) : i64ok k := by
  simp only [Lit.wf, Bool.and_eq_true, decide_eq_true_eq] at h
  have e1 : IntKind.i64.min = -9223372036854775808 := rfl
  have e2 : IntKind.i64.max = 9223372036854775807 := rfl
  rw [e1, e2] at h
  exact h
theorem familyB {n : Nat} {P : Nat → Bool → Prop} (h : ∀ i, i < n → ∃ x, P i x) : ∃ q : Nat → Bool, ∀ i, i < n → P i (q i) :=
  ⟨fun i => if h' : i < n then Classical.choose (h i h') else false, fun i hi => by simp only [hi, dif_pos]; exact Classical.choose_spec (h i hi)⟩
set_option maxRecDepth 100000 in
theorem bools_cells {n : Nat} {cs : List Value} {y : DataW H × List MemPlace} (hf : DataW.trod enc Try.prog W 0 (fun _ => true) true n 51 cs = some y) :
    ∃ (A : Option Addr) (l : List Bool) (cap : Nat), cs = [.slice A l.length cap] ∧ RdBl W W.heap.size A l ∧ l.length ≤ cap ∧ cap ≤ maxLen := by
  rcases open_slice Try.underlying51 hf with ⟨hcs, _⟩ | ⟨a, len, cap, m, n, D, Pl, hcs, _, hl, hm, hmm, _, hi⟩
  · exact ⟨none, [], 0, hcs, fun h => absurd rfl h, Nat.le_refl _, Nat.zero_le _⟩
  · subst hcs
    simp only [if_true] at hmm
    subst hmm
    have hC : Try.prog.cellsOf 4 = 1 := by kernel_rfl
    have each : ∀ i, i < len → ∃ x : Bool, W.cell? (a.add i) = some (.bool x) := by
      intro i hil
      obtain ⟨cs', h1, h2⟩ := hi i (by omega)
      rw [hC, Nat.mul_one] at h1
      obtain ⟨hlen, _, hat⟩ := World.cells?_some h1
      obtain ⟨o, e2, _⟩ := DataW.trod_bool Try.underlying4 h2
      subst e2
      have a0 := hat 0 (by omega)
      rw [Addr.add_zero'] at a0
      exact ⟨o, a0⟩
    obtain ⟨q, hq⟩ := familyB each
    have hlen : ((List.range len).map q).length = len := by simp
    refine ⟨some a, (List.range len).map q, m, by rw [hlen], ?_, by rw [hlen]; exact hl, hm⟩
    intro hn
    have hpos : 0 < len := by
      rcases Nat.eq_zero_or_pos len with h0 | h0
      · subst h0; simp at hn
      · exact h0
    have c0 := hq 0 hpos
    rw [Addr.add_zero'] at c0
    obtain ⟨b, o, sp⟩ := a
    have hsp : sp = none := World.cell?_spot c0
    subst hsp
    refine ⟨b, o, rfl, cell_lt c0, fun j x hj => ?_⟩
    rw [List.getElem?_map, Option.map_eq_some_iff] at hj
    obtain ⟨i, hi1, rfl⟩ := hj
    obtain ⟨h3, h4⟩ := List.getElem?_eq_some_iff.1 hi1
    simp at h3 h4
    subst h4
    have := hq _ h3
    rw [Addr.add_lit] at this
    exact this
set_option maxRecDepth 100000 in
theorem open_bools {v : Value} {d : DataW H} {p : List MemPlace} {base : Nat} (hv : Value.okWide Try.prog W .any base 51 v) (h : DataW.Trod enc Try.prog W 0 (fun _ => true) true 51 v d p) :
    ∃ (A : Option Addr) (l : List Bool) (cap : Nat), v = .slice A l.length cap ∧ RdBl W W.heap.size A l ∧ l.length ≤ cap ∧ cap ≤ maxLen := by
  obtain ⟨a0, len, cap, rfl⟩ := okWide_slice Try.underlying51 hv
  obtain ⟨fuel, hf⟩ := h
  obtain ⟨A, l, c, e, hr, hc, hm⟩ := bools_cells hf
  simp [Value.cells] at e
  obtain ⟨rfl, rfl, rfl⟩ := e
  exact ⟨_, l, _, rfl, hr, hc, hm⟩
end
end Go.Proofs.Ytknolgcbaoppcaa
