/- Package letter: parts. -/
import Derived.Test.YtknolgcbaoppcaaZB
namespace Go.Proofs.Ytknolgcbaoppcaa
open Go.RowKit

theorem box3_ {w : World} {b : Nat} {x y z : Value} {t : TypeId} {fr : Nat × Nat} (h : w.heap[b]? = some (.cells #[x, y, z] t fr)) : w.cell? ⟨b, 0, none⟩ = some x ∧ w.cell? ⟨b, 1, none⟩ = some y ∧ w.cell? ⟨b, 2, none⟩ = some z := by
  simp [World.cell?, h]
theorem frozen_of {w : World} {b : Nat} {cs : Array Value} {t : TypeId} (h : w.heap[b]? = some (.cells cs t (0, 0))) (i : Nat) : w.frozen? ⟨b, i, none⟩ = false := by
  unfold World.frozen?
  rw [show (⟨b, i, none⟩ : Addr).block = b from rfl, h]
  simp
theorem or64 {a b : Nat} (ha : a < 65536) (hb : b < 65536) : bits .or .i64 (a : Int) (b : Int) = ((a ||| b : Nat) : Int) := by
  have h1 : (BitVec.ofInt 64 (a : Int)).toNat = a := by rw [BitVec.toNat_ofInt]; simp; omega
  have h2 : (BitVec.ofInt 64 (b : Int)).toNat = b := by rw [BitVec.toNat_ofInt]; simp; omega
  have h3 : a ||| b < 65536 := Nat.or_lt_two_pow (n := 16) ha hb
  show IntKind.i64.wrap (((BitVec.ofInt 64 (a : Int)) ||| (BitVec.ofInt 64 (b : Int))).toNat : Int) = _
  rw [BitVec.toNat_or, h1, h2, IntKind.wrap_i64]
  omega
theorem pow16 {y : Int} (h : -1 < y ∧ y < 16) : 2 ^ y.toNat < 65536 := Nat.pow_lt_pow_right (m := y.toNat) (n := 16) (by decide) (by omega)
theorem shl16 {y : Int} (h : -1 < y ∧ y < 16) : wrap64 (2 ^ y.toNat) = ((2 ^ y.toNat : Nat) : Int) := by
  have := pow16 h
  rw [show ((2 : Int) ^ y.toNat) = ((2 ^ y.toNat : Nat) : Int) by simp]
  unfold wrap64
  generalize 2 ^ y.toNat = p at *
  omega
theorem take_up {a : Int} : ∀ {ns : List Int} {i : Nat}, upN a ns = true → upN a (ns.take i) = true := fun {ns i} h =>
  up_of_sorted ((up_sorted h).sublist (List.take_sublist i ns)) fun n hn => up_mem h n (List.mem_of_mem_take hn)
def PBL (ns : List Int) (v3 v9 : Value) : Prop := ∃ i : Nat, v3 = .int .i64 ((orB 0 (ns.take i) : Nat) : Int) ∧ v9 = .int .i64 i ∧ i ≤ ns.length
theorem box5' {w : World} {b : Nat} {x y z u v : Value} {t : TypeId} {fr : Nat × Nat} (h : w.heap[b]? = some (.cells #[x, y, z, u, v] t fr)) : w.cell? ⟨b, 0, none⟩ = some x ∧ w.cell? ⟨b, 1, none⟩ = some y ∧ w.cell? ⟨b, 2, none⟩ = some z ∧ w.cell? ⟨b, 3, none⟩ = some u := by
  simp [World.cell?, h]
/-- what parts answers -/
def PaT (w : World) (l : List Val) (e : Ending) (w' : World) : Prop := ∃ A cap, e = .returned (.slice A 5 cap) ∧ RdV w' w'.heap.size A l ∧ Below w.heap.size w w'
theorem rd_five (w : World) (k f t x b : Int) : RdV (w.alloc (.cells #[.int .i64 2, .int .i64 k, .string ⟨#[]⟩, .int .i64 2, .int .i64 f, .string ⟨#[]⟩, .int .i64 2, .int .i64 t, .string ⟨#[]⟩, .int .i64 2, .int .i64 x, .string ⟨#[]⟩, .int .i64 2, .int .i64 b, .string ⟨#[]⟩] 110)) (w.alloc (.cells #[.int .i64 2, .int .i64 k, .string ⟨#[]⟩, .int .i64 2, .int .i64 f, .string ⟨#[]⟩, .int .i64 2, .int .i64 t, .string ⟨#[]⟩, .int .i64 2, .int .i64 x, .string ⟨#[]⟩, .int .i64 2, .int .i64 b, .string ⟨#[]⟩] 110)).heap.size (some ⟨w.heap.size, 0, none⟩) [intV k, intV f, intV t, intV x, intV b] := fun _ => by
  have hh : (w.alloc (.cells #[.int .i64 2, .int .i64 k, .string ⟨#[]⟩, .int .i64 2, .int .i64 f, .string ⟨#[]⟩, .int .i64 2, .int .i64 t, .string ⟨#[]⟩, .int .i64 2, .int .i64 x, .string ⟨#[]⟩, .int .i64 2, .int .i64 b, .string ⟨#[]⟩] 110)).heap[w.heap.size]? = _ := heap_alloc_new w _
  refine ⟨_, 0, rfl, by simp, fun j y hy => ?_⟩
  rw [cell_of_row _ _ _ _ _ (0, 0) hh, cell_of_row _ _ _ _ _ (0, 0) hh, cell_of_row _ _ _ _ _ (0, 0) hh]
  match j with
  | 0 => simp [intV] at hy; subst hy; exact ⟨rfl, rfl, rfl⟩
  | 1 => simp [intV] at hy; subst hy; exact ⟨rfl, rfl, rfl⟩
  | 2 => simp [intV] at hy; subst hy; exact ⟨rfl, rfl, rfl⟩
  | 3 => simp [intV] at hy; subst hy; exact ⟨rfl, rfl, rfl⟩
  | 4 => simp [intV] at hy; subst hy; exact ⟨rfl, rfl, rfl⟩
  | j + 5 => simp at hy
theorem PaT.mk' {w W : World} {k f t x b : Int} {ns : List Int} (hb : Below w.heap.size w W) (h5 : b = ((orB 0 ns : Nat) : Int)) : PaT w (Ltr.row ⟨k, f, t, x, ns⟩) (.returned (.slice (some ⟨W.heap.size, 0, none⟩) 5 5)) (W.alloc (.cells #[.int .i64 2, .int .i64 k, .string ⟨#[]⟩, .int .i64 2, .int .i64 f, .string ⟨#[]⟩, .int .i64 2, .int .i64 t, .string ⟨#[]⟩, .int .i64 2, .int .i64 x, .string ⟨#[]⟩, .int .i64 2, .int .i64 b, .string ⟨#[]⟩] 110)) := by
  subst h5
  exact ⟨_, _, rfl, rd_five W k f t x _, hb.trans ((alloc_below W _).mono hb.size)⟩
end Go.Proofs.Ytknolgcbaoppcaa
