/- Acts of a script, and pairs of numbers, as arguments. -/
import Derived.Test.YtgdofnbnahpedaaKS
namespace Go.Proofs.Ytgdofnbnahpedaa
open Go.ChangeShapes Go.WideShapes Go.ChangeAt Go.RowKit Go.Deep

/-- an act of a script, as it lies -/
structure Act6 where
  k : Int
  n : Int
  m : Int
  A : Option Addr
  l : List UInt8
  cap : Nat
instance : Inhabited Act6 := ⟨⟨0, 0, 0, none, [], 0⟩⟩
def Act6.v (a : Act6) : Value := .agg #[.int .i64 a.k, .int .i64 a.n, .int .i64 a.m, .slice a.A a.l.length a.cap]
structure Act6.ok (w : World) (B : Nat) (a : Act6) : Prop where
  k : i64ok a.k
  n : i64ok a.n
  m : i64ok a.m
  rd : RdB w B a.A a.l
  cap : a.l.length ≤ a.cap
  most : a.cap ≤ maxLen
/-- acts that lie at A, below block B -/
def RdA (w : World) (B : Nat) (A : Option Addr) (l : List Act6) : Prop := l ≠ [] → ∃ b o, A = some ⟨b, o, none⟩ ∧ b < B ∧ ∀ j x, l[j]? = some x → w.cell? ⟨b, o + j * 4, none⟩ = some (.int .i64 x.k) ∧ w.cell? ⟨b, o + j * 4 + 1, none⟩ = some (.int .i64 x.n) ∧ w.cell? ⟨b, o + j * 4 + 2, none⟩ = some (.int .i64 x.m) ∧ w.cell? ⟨b, o + j * 4 + 3, none⟩ = some (.slice x.A x.l.length x.cap)
theorem RdA.at_ {w w' : World} {B C k : Nat} {A : Option Addr} {l : List Act6} {x : Act6} (h : RdA w B A l) (hx : l[k]? = some x) (hb : Below C w w') (hC : B ≤ C) : ∃ b o, A = some ⟨b, o, none⟩ ∧ w'.cell? ⟨b, o + k * 4, none⟩ = some (.int .i64 x.k) ∧ w'.cell? ⟨b, o + k * 4 + 1, none⟩ = some (.int .i64 x.n) ∧ w'.cell? ⟨b, o + k * 4 + 2, none⟩ = some (.int .i64 x.m) ∧ w'.cell? ⟨b, o + k * 4 + 3, none⟩ = some (.slice x.A x.l.length x.cap) := by
  obtain ⟨b, o, e, hlt, hc⟩ := h (fun e => by subst e; simp at hx)
  have hcell : ∀ j, w'.cell? ⟨b, j, none⟩ = w.cell? ⟨b, j, none⟩ := fun j => World.cell?_of_block (hb.block b (by omega))
  refine ⟨b, o, e, ?_⟩
  rw [hcell, hcell, hcell, hcell]
  exact hc k x hx
section
variable {H : Type} {enc : TypeId × Value → H} {W : World}
set_option maxRecDepth 100000 in
/-- bytes, by their cell -/
theorem bytes_cells {n : Nat} {cs : List Value} {y : DataW H × List MemPlace} (h : DataW.trod enc Try.prog W 0 (fun _ => true) true n 23 cs = some y) :
    ∃ (A : Option Addr) (l : List UInt8) (cap : Nat), cs = [.slice A l.length cap] ∧ RdB W W.heap.size A l ∧ l.length ≤ cap ∧ cap ≤ maxLen := by
  rcases open_ints Try.underlying23 Try.underlying5 (by kernel_rfl) h with ⟨hcs, _⟩ | ⟨a, len, cap, zs, hcs, _, hl, hm, hz, _, hcell, hwz⟩
  · exact ⟨none, [], 0, hcs, RdB.nil _ _ _, Nat.le_refl _, Nat.zero_le _⟩
  · simp only [if_true] at hz
    have hlen : ((zs.take len).map fun z => UInt8.ofNat z.toNat).length = len := by rw [List.length_map, List.length_take]; omega
    refine ⟨some a, (zs.take len).map fun z => UInt8.ofNat z.toNat, cap, by rw [hlen]; exact hcs, ?_, by rw [hlen]; exact hl, hm⟩
    intro hn
    have hpos : 0 < len := by
      rcases Nat.eq_zero_or_pos len with h0 | h0
      · subst h0; simp at hn
      · exact h0
    refine ⟨a, rfl, ?_, ?_⟩
    · have := cell_lt (hcell 0 (by omega))
      rwa [addr_add_block] at this
    · intro j c hj
      rw [List.getElem?_map, Option.map_eq_some_iff] at hj
      obtain ⟨z, hz1, rfl⟩ := hj
      rw [List.getElem?_take] at hz1
      split at hz1
      · next hjl =>
        rw [hcell j (by omega), List.getD_eq_getElem?_getD, hz1]
        have hw := hwz z (List.mem_of_getElem? hz1)
        simp only [Lit.wf, Bool.and_eq_true, decide_eq_true_eq] at hw
        have e1 : IntKind.u8.min = 0 := rfl
        have e2 : IntKind.u8.max = 255 := rfl
        rw [e1, e2] at hw
        rw [ofNat_toNat8 (by omega)]
        simp; omega
      · cases hz1
set_option maxRecDepth 100000 in
/-- four cells that read as an act -/
theorem act_cells {base n : Nat} {cs : List Value} {y : DataW H × List MemPlace} (hb0 : base = 0) (h : DataW.trod enc Try.prog W base (fun _ => true) true n 45 cs = some y) :
    ∃ x : Act6, cs = [.int .i64 x.k, .int .i64 x.n, .int .i64 x.m, .slice x.A x.l.length x.cap] ∧ x.ok W W.heap.size := by
  subst hb0
  obtain ⟨xs, m, _, _, hlen, hxl, hf⟩ := DataW.trod_struct Try.underlying45 h
  have hC : Try.prog.cellsOf 45 = 4 := by kernel_rfl
  rw [hC] at hlen
  match cs, hlen, xs, hxl with
  | [c0, c1, c2, c3], _, [y0, y1, y2, y3], _ =>
    have g0 := hf 0 _ rfl
    have g1 := hf 1 _ rfl
    have g2 := hf 2 _ rfl
    have g3 := hf 3 _ rfl
    have k0 : Try.prog.cellsOf 3 = 1 := by kernel_rfl
    have k1 : Try.prog.cellsOf 23 = 1 := by kernel_rfl
    simp [k0, k1] at g0 g1 g2 g3
    obtain ⟨a, e0, _, w0⟩ := DataW.trod_int Try.underlying3 g0
    obtain ⟨b, e1, _, w1⟩ := DataW.trod_int Try.underlying3 g1
    obtain ⟨d, e2, _, w2⟩ := DataW.trod_int Try.underlying3 g2
    obtain ⟨A, l, cap, e3, hr, hc, hm⟩ := bytes_cells g3
    simp at e0 e1 e2 e3
    subst e0 e1 e2 e3
    exact ⟨⟨a, b, d, A, l, cap⟩, rfl, wf_i64 w0, wf_i64 w1, wf_i64 w2, hr, hc, hm⟩
set_option maxRecDepth 100000 in
/-- an act as an argument -/
theorem open_act {v : Value} {d : DataW H} {p : List MemPlace} {base : Nat} (hv : Value.okWide Try.prog W .any base 45 v) (h : DataW.Trod enc Try.prog W 0 (fun _ => true) true 45 v d p) : ∃ x : Act6, v = x.v ∧ x.ok W W.heap.size := by
  obtain ⟨v0, v1, v2, v3, y0, y1, y2, y3, n, rfl, _, _, h0, h1, h2, h3⟩ := Go.Joins.open_agg4 Try.underlying45 (by kernel_rfl) (by kernel_rfl) hv h
  obtain ⟨k0, e0, _, w0⟩ := DataW.trod_int Try.underlying3 h0
  obtain ⟨k1, e1, _, w1⟩ := DataW.trod_int Try.underlying3 h1
  obtain ⟨k2, e2, _, w2⟩ := DataW.trod_int Try.underlying3 h2
  obtain ⟨A, l, cap, e3, hr, hc, hm⟩ := bytes_cells h3
  simp at e0 e1 e2 e3
  subst e0 e1 e2 e3
  exact ⟨⟨k0, k1, k2, A, l, cap⟩, rfl, wf_i64 w0, wf_i64 w1, wf_i64 w2, hr, hc, hm⟩
set_option maxRecDepth 100000 in
/-- acts as an argument -/
theorem open_acts {v : Value} {d : DataW H} {p : List MemPlace} {base : Nat} (hv : Value.okWide Try.prog W .any base 33 v) (h : DataW.Trod enc Try.prog W 0 (fun _ => true) true 33 v d p) :
    ∃ (A : Option Addr) (l : List Act6) (cap : Nat), v = .slice A l.length cap ∧ RdA W W.heap.size A l ∧ (∀ x ∈ l, x.ok W W.heap.size) ∧ l.length ≤ cap ∧ cap ≤ maxLen := by
  obtain ⟨a0, len, cap, rfl⟩ := okWide_slice Try.underlying33 hv
  obtain ⟨fuel, hf⟩ := h
  rcases open_slice Try.underlying33 hf with ⟨hcs, _⟩ | ⟨a, len', cap', m, n, D, Pl, hcs, _, hl, hm, hmm, _, hi⟩
  · simp [Value.cells] at hcs
    obtain ⟨rfl, rfl, rfl⟩ := hcs
    exact ⟨none, [], 0, rfl, fun h => absurd rfl h, fun x hx => by simp at hx, Nat.le_refl _, Nat.zero_le _⟩
  · simp [Value.cells] at hcs
    obtain ⟨rfl, rfl, rfl⟩ := hcs
    simp only [if_true] at hmm
    subst hmm
    have hC : Try.prog.cellsOf 45 = 4 := by kernel_rfl
    have each : ∀ i, i < len → ∃ x : Act6, (W.cell? (a.add (i * 4)) = some (.int .i64 x.k) ∧ W.cell? ((a.add (i * 4)).add 1) = some (.int .i64 x.n) ∧ W.cell? ((a.add (i * 4)).add 2) = some (.int .i64 x.m) ∧ W.cell? ((a.add (i * 4)).add 3) = some (.slice x.A x.l.length x.cap)) ∧ x.ok W W.heap.size := by
      intro i hil
      obtain ⟨cs', h1, h2⟩ := hi i (by omega)
      rw [hC] at h1
      obtain ⟨_, _, hat⟩ := World.cells?_some h1
      obtain ⟨x, rfl, hx⟩ := act_cells rfl h2
      have a0 := hat 0 (by omega)
      rw [Addr.add_zero'] at a0
      exact ⟨x, ⟨a0, hat 1 (by omega), hat 2 (by omega), hat 3 (by omega)⟩, hx⟩
    obtain ⟨q, hq⟩ := family each
    have hlen : ((List.range len).map q).length = len := by simp
    have hget : ∀ (j : Nat) (x : Act6), ((List.range len).map q)[j]? = some x → j < len ∧ x = q j := by
      intro j x hj
      rw [List.getElem?_map, Option.map_eq_some_iff] at hj
      obtain ⟨i, hi1, rfl⟩ := hj
      have h2 := List.getElem?_eq_some_iff.1 hi1
      obtain ⟨h3, h4⟩ := h2
      simp at h3 h4
      subst h4
      exact ⟨h3, rfl⟩
    refine ⟨some a, (List.range len).map q, m, by rw [hlen], ?_, ?_, by rw [hlen]; exact hl, hm⟩
    · intro hn
      have hpos : 0 < len := by
        rcases Nat.eq_zero_or_pos len with h0 | h0
        · subst h0; simp at hn
        · exact h0
      obtain ⟨⟨c0, _, _, _⟩, _⟩ := hq 0 hpos
      rw [Nat.zero_mul, Addr.add_zero'] at c0
      obtain ⟨b, o, sp⟩ := a
      have hsp : sp = none := World.cell?_spot c0
      subst hsp
      refine ⟨b, o, rfl, cell_lt c0, fun j x hj => ?_⟩
      obtain ⟨hjl, rfl⟩ := hget j x hj
      obtain ⟨⟨d0, d1, d2, d3⟩, _⟩ := hq j hjl
      rw [Addr.add_lit] at d0
      rw [Addr.add_lit, Addr.add_lit] at d1 d2 d3
      exact ⟨d0, d1, d2, d3⟩
    · intro x hx
      obtain ⟨j, hj⟩ := List.getElem?_of_mem hx
      obtain ⟨hjl, rfl⟩ := hget j x hj
      exact (hq j hjl).2
theorem okWide_array {n b0 : Nat} {e t : TypeId} {P : Program} {w : World} {r : Reach} {v : Value} (ht : P.underlying t = some (.array n e)) (h : Value.okWide P w r b0 t v) : ∃ cs, v = .agg cs ∧ cs.size = P.cellsOf t := by
  simp only [Value.okWide, ht] at h
  obtain ⟨cs, h1, h2, _⟩ := h
  exact ⟨cs, h1, h2⟩
end
end Go.Proofs.Ytgdofnbnahpedaa
