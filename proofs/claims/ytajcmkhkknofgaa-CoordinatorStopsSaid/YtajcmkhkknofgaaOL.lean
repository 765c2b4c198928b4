/- An act of a coordinator's script, as an argument. -/
import Derived.Test.YtajcmkhkknofgaaZI
import Derived.Test.YtajcmkhkknofgaaDO
namespace Go.Proofs.Ytajcmkhkknofgaa
open Go.ChangeShapes Go.WideShapes Go.ChangeAt Go.RowKit Go.Deep

theorem array11 {α : Type} {cs : Array α} (h : cs.size = 11) : ∃ c0 c1 c2 c3 c4 c5 c6 c7 c8 c9 c10, cs = #[c0, c1, c2, c3, c4, c5, c6, c7, c8, c9, c10] := by
  obtain ⟨l⟩ := cs
  match l, h with
  | [c0, c1, c2, c3, c4, c5, c6, c7, c8, c9, c10], _ => exact ⟨c0, c1, c2, c3, c4, c5, c6, c7, c8, c9, c10, rfl⟩
theorem list7 {α : Type} {l : List α} (h : l.length = 7) : ∃ c0 c1 c2 c3 c4 c5 c6, l = [c0, c1, c2, c3, c4, c5, c6] := by
  match l, h with
  | [c0, c1, c2, c3, c4, c5, c6], _ => exact ⟨c0, c1, c2, c3, c4, c5, c6, rfl⟩
/-- an act, as it lies -/
structure ActC where
  k : Int
  i : Int
  n : Int
  A : Option Addr
  ns : List Int
  cap : Nat
  l : LtrA
  own : Bool
  B : Option Addr
  bs : List UInt8
  bcap : Nat
def ActC.v (x : ActC) : Value := .agg #[.int .i64 x.k, .int .i64 x.i, .int .i64 x.n, .slice x.A x.ns.length x.cap, .int .i64 x.l.l.k, .int .i64 x.l.l.f, .int .i64 x.l.l.t, .int .i64 x.l.l.x, .slice x.l.A x.l.l.ns.length x.l.cap, .bool x.own, .slice x.B x.bs.length x.bcap]
structure ActC.ok (w : World) (B : Nat) (x : ActC) : Prop where
  k : i64ok x.k
  i : i64ok x.i
  n : i64ok x.n
  rd : RdI w B x.A x.ns
  cap : x.ns.length ≤ x.cap ∧ x.cap ≤ maxLen
  l : x.l.ok w B
  rb : RdB w B x.B x.bs
  bcap : x.bs.length ≤ x.bcap ∧ x.bcap ≤ maxLen
section
variable {H : Type} {enc : TypeId × Value → H} {W : World}
set_option maxRecDepth 100000 in
theorem ltrC_cells {n : Nat} {cs : List Value} {y : DataW H × List MemPlace} (h : DataW.trod enc Try.prog W 0 (fun _ => true) true n 46 cs = some y) :
    ∃ x : LtrA, cs = [.int .i64 x.l.k, .int .i64 x.l.f, .int .i64 x.l.t, .int .i64 x.l.x, .slice x.A x.l.ns.length x.cap] ∧ x.ok W W.heap.size := by
  obtain ⟨xs, m, _, _, hlen, hxl, hf⟩ := DataW.trod_struct Try.underlying46 h
  have hC : Try.prog.cellsOf 46 = 5 := by kernel_rfl
  rw [hC] at hlen
  match cs, hlen, xs, hxl with
  | [c0, c1, c2, c3, c4], _, [y0, y1, y2, y3, y4], _ =>
    have g0 := hf 0 _ rfl
    have g1 := hf 1 _ rfl
    have g2 := hf 2 _ rfl
    have g3 := hf 3 _ rfl
    have g4 := hf 4 _ rfl
    have k0 : Try.prog.cellsOf 3 = 1 := by kernel_rfl
    have k1 : Try.prog.cellsOf 22 = 1 := by kernel_rfl
    have k2 : Try.prog.cellsOf 43 = 1 := by kernel_rfl
    simp [k0, k1, k2] at g0 g1 g2 g3 g4
    obtain ⟨a0, e0, _, w0⟩ := DataW.trod_int Try.underlying43 g0
    obtain ⟨a1, e1, _, w1⟩ := DataW.trod_int Try.underlying3 g1
    obtain ⟨a2, e2, _, w2⟩ := DataW.trod_int Try.underlying3 g2
    obtain ⟨a3, e3, _, w3⟩ := DataW.trod_int Try.underlying3 g3
    obtain ⟨A, l, cap, e4, hr, hc, hm⟩ := ints_cells g4
    simp at e0 e1 e2 e3 e4
    subst e0 e1 e2 e3 e4
    exact ⟨⟨⟨a0, a1, a2, a3, l⟩, A, cap⟩, rfl, wf_i64 w0, wf_i64 w1, wf_i64 w2, wf_i64 w3, hr, hc, hm⟩
end
end Go.Proofs.Ytajcmkhkknofgaa
