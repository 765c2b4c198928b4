/- Package letter: the nodes of bits; whole. -/
import Derived.Test.YtknolgcbaoppcaaZK
namespace Go.Proofs.Ytknolgcbaoppcaa
open Go.RowKit

def nodesTo (b i : Nat) : List Int := ((List.range i).filter b.testBit).map Int.ofNat
theorem nodesTo_all (b : Nat) : nodesTo b 16 = nodesI b := rfl
theorem nodesTo_yes {b i : Nat} (h : b.testBit i = true) : nodesTo b (i + 1) = nodesTo b i ++ [(i : Int)] := by
  unfold nodesTo
  rw [List.range_succ, List.filter_append, List.map_append]
  simp [h]
theorem nodesTo_no {b i : Nat} (h : b.testBit i = false) : nodesTo b (i + 1) = nodesTo b i := by
  unfold nodesTo
  rw [List.range_succ, List.filter_append, List.map_append]
  simp [h]
theorem nodesTo_len (b i : Nat) : (nodesTo b i).length ≤ i := by
  unfold nodesTo
  rw [List.length_map]
  exact Nat.le_trans (List.length_filter_le _ _) (by simp)
theorem and1 {b i : Nat} (hb : b < 65536) : bits .and .i64 ((b : Int) / 2 ^ i) 1 = if b.testBit i = true then 1 else 0 := by
  have e : ((b : Int) / 2 ^ i) = ((b / 2 ^ i : Nat) : Int) := by simp
  have hle : b / 2 ^ i ≤ b := Nat.div_le_self _ _
  rw [e, Nat.testBit_eq_decide_div_mod_eq]
  generalize b / 2 ^ i = a at *
  have h1 : (BitVec.ofInt 64 (a : Int)).toNat = a := by rw [BitVec.toNat_ofInt]; simp; omega
  show IntKind.i64.wrap (((BitVec.ofInt 64 (a : Int)) &&& (BitVec.ofInt 64 1)).toNat : Int) = _
  rw [BitVec.toNat_and, h1, show (BitVec.ofInt 64 1).toNat = 1 by decide, Nat.and_one_is_mod, IntKind.wrap_i64]
  by_cases h : a % 2 = 1
  · simp [h]
  · simp [h]; omega
def NdT (w : World) (l : List Int) (e : Ending) (w' : World) : Prop := ∃ v, e = .returned v ∧ OwnI w' w.heap.size v l ∧ Below w.heap.size w w'
def NdL (w : World) (b : Nat) (v3 v5 : Value) (wr : World) : Prop := ∃ (i : Nat) (y : Value), y = v3 ∧ v5 = .int .i64 i ∧ i ≤ 16 ∧ OwnI wr w.heap.size y (nodesTo b i) ∧ Below w.heap.size w wr
end Go.Proofs.Ytknolgcbaoppcaa
