/- A letter as an argument. -/
import Derived.Test.YtogogekmodbdiaaZX
import Derived.Test.YtogogekmodbdiaaKX
import Derived.Test.YtogogekmodbdiaaOY
namespace Go.Proofs.Ytogogekmodbdiaa
section
open Go.ChangeShapes Go.WideShapes Go.ChangeAt Go.RowKit Go.Deep

/-- a letter, as it lies -/
structure LtrA where
  l : Ltr
  A : Option Addr
  cap : Nat
def LtrA.v (a : LtrA) : Value := .agg #[.int .i64 a.l.k, .int .i64 a.l.f, .int .i64 a.l.t, .int .i64 a.l.x, .slice a.A a.l.ns.length a.cap]
structure LtrA.ok (w : World) (B : Nat) (a : LtrA) : Prop where
  k : i64ok a.l.k
  f : i64ok a.l.f
  t : i64ok a.l.t
  x : i64ok a.l.x
  rd : RdI w B a.A a.l.ns
  cap : a.l.ns.length ≤ a.cap
  most : a.cap ≤ maxLen
section
variable {H : Type} {enc : TypeId × Value → H} {W : World}
set_option maxRecDepth 100000 in
/-- numbers, by their cell -/
theorem ints_cells {n : Nat} {cs : List Value} {y : DataW H × List MemPlace} (h : DataW.trod enc Try.prog W 0 (fun _ => true) true n 22 cs = some y) :
    ∃ (A : Option Addr) (l : List Int) (cap : Nat), cs = [.slice A l.length cap] ∧ RdI W W.heap.size A l ∧ l.length ≤ cap ∧ cap ≤ maxLen := by
  rcases open_ints Try.underlying22 Try.underlying3 (by kernel_rfl) h with ⟨hcs, _⟩ | ⟨a, len, cap, zs, hcs, _, hl, hm, hz, _, hcell, _⟩
  · exact ⟨none, [], 0, hcs, RdI.nil _ _ _, Nat.le_refl _, Nat.zero_le _⟩
  · simp only [if_true] at hz
    have hlen : (zs.take len).length = len := by rw [List.length_take]; omega
    refine ⟨some a, zs.take len, cap, by rw [hlen]; exact hcs, ?_, by rw [hlen]; exact hl, hm⟩
    intro hn
    have hpos : 0 < len := by
      rcases Nat.eq_zero_or_pos len with h0 | h0
      · subst h0; simp at hn
      · exact h0
    have c0 := hcell 0 (by omega)
    rw [Addr.add_zero'] at c0
    obtain ⟨b, o, sp⟩ := a
    have hsp : sp = none := World.cell?_spot c0
    subst hsp
    refine ⟨b, o, rfl, cell_lt c0, fun j c hj => ?_⟩
    rw [List.getElem?_take] at hj
    split at hj
    · next hjl =>
      have h2 := hcell j (by omega)
      rw [Addr.add_lit, List.getD_eq_getElem?_getD, hj] at h2
      exact h2
    · cases hj
end
end

section
open Go.ChangeShapes Go.WideShapes Go.ChangeAt Go.RowKit Go.Deep

/-- an act of a script, as it lies -/
structure Act6 where
  k : Int
  n : Int
  m : Int
  A : Option Addr
  l : List UInt8
  cap : Nat
instance : Inhabited Act6 := ⟨⟨0, 0, 0, none, [], 0⟩⟩
def Act6.v (a : Act6) : Value := .agg #[.int .i64 a.k, .int .i64 a.n, .int .i64 a.m, .slice a.A a.l.length a.cap]
structure Act6.ok (w : World) (B : Nat) (a : Act6) : Prop where
  k : i64ok a.k
  n : i64ok a.n
  m : i64ok a.m
  rd : RdB w B a.A a.l
  cap : a.l.length ≤ a.cap
  most : a.cap ≤ maxLen
/-- acts that lie at A, below block B -/
def RdA (w : World) (B : Nat) (A : Option Addr) (l : List Act6) : Prop := l ≠ [] → ∃ b o, A = some ⟨b, o, none⟩ ∧ b < B ∧ ∀ j x, l[j]? = some x → w.cell? ⟨b, o + j * 4, none⟩ = some (.int .i64 x.k) ∧ w.cell? ⟨b, o + j * 4 + 1, none⟩ = some (.int .i64 x.n) ∧ w.cell? ⟨b, o + j * 4 + 2, none⟩ = some (.int .i64 x.m) ∧ w.cell? ⟨b, o + j * 4 + 3, none⟩ = some (.slice x.A x.l.length x.cap)
theorem RdA.at_ {w w' : World} {B C k : Nat} {A : Option Addr} {l : List Act6} {x : Act6} (h : RdA w B A l) (hx : l[k]? = some x) (hb : Below C w w') (hC : B ≤ C) : ∃ b o, A = some ⟨b, o, none⟩ ∧ w'.cell? ⟨b, o + k * 4, none⟩ = some (.int .i64 x.k) ∧ w'.cell? ⟨b, o + k * 4 + 1, none⟩ = some (.int .i64 x.n) ∧ w'.cell? ⟨b, o + k * 4 + 2, none⟩ = some (.int .i64 x.m) ∧ w'.cell? ⟨b, o + k * 4 + 3, none⟩ = some (.slice x.A x.l.length x.cap) := by
  obtain ⟨b, o, e, hlt, hc⟩ := h (fun e => by subst e; simp at hx)
  have hcell : ∀ j, w'.cell? ⟨b, j, none⟩ = w.cell? ⟨b, j, none⟩ := fun j => World.cell?_of_block (hb.block b (by omega))
  refine ⟨b, o, e, ?_⟩
  rw [hcell, hcell, hcell, hcell]
  exact hc k x hx
section
variable {H : Type} {enc : TypeId × Value → H} {W : World}
end
end

section
open Go.ChangeShapes Go.WideShapes Go.ChangeAt Go.RowKit Go.Deep

/-- an act, as it lies -/
structure ActC where
  k : Int
  i : Int
  n : Int
  A : Option Addr
  ns : List Int
  cap : Nat
  l : LtrA
  own : Bool
  B : Option Addr
  bs : List UInt8
  bcap : Nat
def ActC.v (x : ActC) : Value := .agg #[.int .i64 x.k, .int .i64 x.i, .int .i64 x.n, .slice x.A x.ns.length x.cap, .int .i64 x.l.l.k, .int .i64 x.l.l.f, .int .i64 x.l.l.t, .int .i64 x.l.l.x, .slice x.l.A x.l.l.ns.length x.l.cap, .bool x.own, .slice x.B x.bs.length x.bcap]
structure ActC.ok (w : World) (B : Nat) (x : ActC) : Prop where
  k : i64ok x.k
  i : i64ok x.i
  n : i64ok x.n
  rd : RdI w B x.A x.ns
  cap : x.ns.length ≤ x.cap ∧ x.cap ≤ maxLen
  l : x.l.ok w B
  rb : RdB w B x.B x.bs
  bcap : x.bs.length ≤ x.bcap ∧ x.bcap ≤ maxLen
section
variable {H : Type} {enc : TypeId × Value → H} {W : World}
end
end

section
open Go.ChangeShapes Go.WideShapes Go.ChangeAt Go.RowKit Go.Deep

/-- a case, as it lies -/
structure CaseC where
  A : Option Addr
  ns : List Int
  cap : Nat
  V : Option Addr
  vs : List Vt
  vcap : Nat
  k : Int
def CaseC.v (x : CaseC) : Value := .agg #[.slice x.A x.ns.length x.cap, .slice x.V x.vs.length x.vcap, .int .i64 x.k]
structure CaseC.ok (w : World) (B : Nat) (x : CaseC) : Prop where
  k : i64ok x.k
  rd : RdI w B x.A x.ns
  cap : x.ns.length ≤ x.cap ∧ x.cap ≤ maxLen
  rv : RdVt w B x.V x.vs
  vok : ∀ y ∈ x.vs, i64ok y.n ∧ i64ok y.k
  vcap : x.vs.length ≤ x.vcap ∧ x.vcap ≤ maxLen
instance : Inhabited Vt := ⟨⟨0, 0, false⟩⟩
section
variable {H : Type} {enc : TypeId × Value → H} {W : World}
set_option maxRecDepth 100000 in
theorem vote_cells {base n : Nat} {cs : List Value} {y : DataW H × List MemPlace} (hb0 : base = 0) (h : DataW.trod enc Try.prog W base (fun _ => true) true n 40 cs = some y) :
    ∃ x : Vt, cs = [.int .i64 x.n, .int .i64 x.k, .bool x.p] ∧ i64ok x.n ∧ i64ok x.k := by
  subst hb0
  obtain ⟨xs, m, _, _, hlen, hxl, hf⟩ := DataW.trod_struct Try.underlying40 h
  have hC : Try.prog.cellsOf 40 = 3 := by kernel_rfl
  rw [hC] at hlen
  match cs, hlen, xs, hxl with
  | [c0, c1, c2], _, [y0, y1, y2], _ =>
    have g0 := hf 0 _ rfl
    have g1 := hf 1 _ rfl
    have g2 := hf 2 _ rfl
    have k0 : Try.prog.cellsOf 3 = 1 := by kernel_rfl
    have k1 : Try.prog.cellsOf 4 = 1 := by kernel_rfl
    simp [k0, k1] at g0 g1 g2
    obtain ⟨a, e0, _, w0⟩ := DataW.trod_int Try.underlying3 g0
    obtain ⟨b, e1, _, w1⟩ := DataW.trod_int Try.underlying3 g1
    obtain ⟨o, e2, _⟩ := DataW.trod_bool Try.underlying4 g2
    simp at e0 e1 e2
    subst e0 e1 e2
    exact ⟨⟨a, b, o⟩, rfl, wf_i64 w0, wf_i64 w1⟩
set_option maxRecDepth 100000 in
theorem votes_cells {n : Nat} {cs : List Value} {y : DataW H × List MemPlace} (hf : DataW.trod enc Try.prog W 0 (fun _ => true) true n 23 cs = some y) :
    ∃ (A : Option Addr) (l : List Vt) (cap : Nat), cs = [.slice A l.length cap] ∧ RdVt W W.heap.size A l ∧ (∀ x ∈ l, i64ok x.n ∧ i64ok x.k) ∧ l.length ≤ cap ∧ cap ≤ maxLen := by
  rcases open_slice Try.underlying23 hf with ⟨hcs, _⟩ | ⟨a, len, cap, m, n, D, Pl, hcs, _, hl, hm, hmm, _, hi⟩
  · exact ⟨none, [], 0, hcs, fun h => absurd rfl h, fun x hx => by simp at hx, Nat.le_refl _, Nat.zero_le _⟩
  · subst hcs
    simp only [if_true] at hmm
    subst hmm
    have hC : Try.prog.cellsOf 40 = 3 := by kernel_rfl
    have each : ∀ i, i < len → ∃ x : Vt, (W.cell? (a.add (i * 3)) = some (.int .i64 x.n) ∧ W.cell? ((a.add (i * 3)).add 1) = some (.int .i64 x.k) ∧ W.cell? ((a.add (i * 3)).add 2) = some (.bool x.p)) ∧ (i64ok x.n ∧ i64ok x.k) := by
      intro i hil
      obtain ⟨cs', h1, h2⟩ := hi i (by omega)
      rw [hC] at h1
      obtain ⟨_, _, hat⟩ := World.cells?_some h1
      obtain ⟨x, rfl, hx⟩ := vote_cells rfl h2
      have a0 := hat 0 (by omega)
      rw [Addr.add_zero'] at a0
      exact ⟨x, ⟨a0, hat 1 (by omega), hat 2 (by omega)⟩, hx⟩
    obtain ⟨q, hq⟩ := family each
    have hlen : ((List.range len).map q).length = len := by simp
    have hget : ∀ (j : Nat) (x : Vt), ((List.range len).map q)[j]? = some x → j < len ∧ x = q j := by
      intro j x hj
      rw [List.getElem?_map, Option.map_eq_some_iff] at hj
      obtain ⟨i, hi1, rfl⟩ := hj
      have h2 := List.getElem?_eq_some_iff.1 hi1
      obtain ⟨h3, h4⟩ := h2
      simp at h3 h4
      subst h4
      exact ⟨h3, rfl⟩
    refine ⟨some a, (List.range len).map q, m, by rw [hlen], ?_, ?_, by rw [hlen]; exact hl, hm⟩
    · intro hn
      have hpos : 0 < len := by
        rcases Nat.eq_zero_or_pos len with h0 | h0
        · subst h0; simp at hn
        · exact h0
      obtain ⟨⟨c0, _, _⟩, _⟩ := hq 0 hpos
      rw [Nat.zero_mul, Addr.add_zero'] at c0
      obtain ⟨b, o, sp⟩ := a
      have hsp : sp = none := World.cell?_spot c0
      subst hsp
      refine ⟨b, o, rfl, cell_lt c0, fun j x hj => ?_⟩
      obtain ⟨hjl, rfl⟩ := hget j x hj
      obtain ⟨⟨d0, d1, d2⟩, _⟩ := hq j hjl
      rw [Addr.add_lit] at d0
      rw [Addr.add_lit, Addr.add_lit] at d1 d2
      exact ⟨d0, d1, d2⟩
    · intro x hx
      obtain ⟨j, hj⟩ := List.getElem?_of_mem hx
      obtain ⟨hjl, rfl⟩ := hget j x hj
      exact (hq j hjl).2
set_option maxRecDepth 100000 in
theorem open_case13 {v : Value} {d : DataW H} {p : List MemPlace} {base : Nat} (hv : Value.okWide Try.prog W .any base 25 v) (h : DataW.Trod enc Try.prog W 0 (fun _ => true) true 25 v d p) : ∃ x : CaseC, v = x.v ∧ x.ok W W.heap.size := by
  obtain ⟨cs, rfl, hsz⟩ := okWide_struct Try.underlying25 hv
  have hC : Try.prog.cellsOf 25 = 3 := by kernel_rfl
  obtain ⟨l⟩ := cs
  match l, hsz.trans hC with
  | [c0, c1, c2], _ =>
  obtain ⟨fuel, hf⟩ := h
  obtain ⟨xs, m, _, _, hlen, hxl, hx⟩ := DataW.trod_struct Try.underlying25 hf
  match xs, hxl with
  | [y0, y1, y2], _ =>
  have g0 := hx 0 _ rfl
  have g1 := hx 1 _ rfl
  have g2 := hx 2 _ rfl
  have k0 : Try.prog.cellsOf 3 = 1 := by kernel_rfl
  have k1 : Try.prog.cellsOf 22 = 1 := by kernel_rfl
  have k2 : Try.prog.cellsOf 23 = 1 := by kernel_rfl
  simp [k0, k1, k2, Value.cells] at g0 g1 g2
  obtain ⟨A, l, cap, e0, hr, hc, hm⟩ := ints_cells g0
  obtain ⟨V, vs, vcap, e1, hrv, hvo, hvc, hvm⟩ := votes_cells g1
  obtain ⟨a2, e2, _, w2⟩ := DataW.trod_int Try.underlying3 g2
  simp at e0 e1 e2
  subst e0 e1 e2
  exact ⟨⟨A, l, cap, V, vs, vcap, a2⟩, rfl, wf_i64 w2, hr, ⟨hc, hm⟩, hrv, hvo, ⟨hvc, hvm⟩⟩
end
end
end Go.Proofs.Ytogogekmodbdiaa
