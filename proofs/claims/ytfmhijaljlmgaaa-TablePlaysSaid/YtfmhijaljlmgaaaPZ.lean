/- Acts of a table's script, and ranges, as arguments. -/
import Derived.Test.YtfmhijaljlmgaaaKX
namespace Go.Proofs.Ytfmhijaljlmgaaa
open Go.ChangeShapes Go.WideShapes Go.ChangeAt Go.RowKit Go.Deep

/-- an act of a table's script, as it lies -/
structure Act8 where
  k : Int
  A : Option Addr
  l : List UInt8
  ac : Nat
  B : Option Addr
  m : List UInt8
  bc : Nat
instance : Inhabited Act8 := ⟨⟨0, none, [], 0, none, [], 0⟩⟩
def Act8.v (a : Act8) : Value := .agg #[.int .i64 a.k, .slice a.A a.l.length a.ac, .slice a.B a.m.length a.bc]
structure Act8.ok (w : World) (C : Nat) (a : Act8) : Prop where
  k : i64ok a.k
  rk : RdB w C a.A a.l
  kc : a.l.length ≤ a.ac
  km : a.ac ≤ maxLen
  rr : RdB w C a.B a.m
  rc : a.m.length ≤ a.bc
  rm : a.bc ≤ maxLen
/-- a range, as it lies -/
structure Of8 where
  F : Option Addr
  f : List UInt8
  fc : Nat
  T : Option Addr
  t : List UInt8
  tc : Nat
  most : Int
def Of8.v (a : Of8) : Value := .agg #[.slice a.F a.f.length a.fc, .slice a.T a.t.length a.tc, .int .i64 a.most]
structure Of8.ok (w : World) (C : Nat) (a : Of8) : Prop where
  rf : RdB w C a.F a.f
  fc : a.f.length ≤ a.fc
  fm : a.fc ≤ maxLen
  rt : RdB w C a.T a.t
  tc : a.t.length ≤ a.tc
  tm : a.tc ≤ maxLen
  most : i64ok a.most
section
variable {H : Type} {enc : TypeId × Value → H} {W : World}
set_option maxRecDepth 100000 in
/-- a range as an argument -/
theorem open_of8 {v : Value} {d : DataW H} {p : List MemPlace} {base : Nat} (hv : Value.okWide Try.prog W .any base 25 v) (h : DataW.Trod enc Try.prog W 0 (fun _ => true) true 25 v d p) : ∃ x : Of8, v = x.v ∧ x.ok W W.heap.size := by
  obtain ⟨v0, v1, v2, y0, y1, y2, n, rfl, _, _, h0, h1, h2⟩ := Go.Joins.open_agg3 Try.underlying25 (by kernel_rfl) (by kernel_rfl) hv h
  obtain ⟨A, l, ac, e0, hr1, hc1, hm1⟩ := bytes_cells h0
  obtain ⟨B, m, bc, e1, hr2, hc2, hm2⟩ := bytes_cells h1
  obtain ⟨k0, e2, _, w0⟩ := DataW.trod_int Try.underlying3 h2
  simp at e0 e1 e2
  subst e0 e1 e2
  exact ⟨⟨A, l, ac, B, m, bc, k0⟩, rfl, hr1, hc1, hm1, hr2, hc2, hm2, wf_i64 w0⟩
end
end Go.Proofs.Ytfmhijaljlmgaaa
