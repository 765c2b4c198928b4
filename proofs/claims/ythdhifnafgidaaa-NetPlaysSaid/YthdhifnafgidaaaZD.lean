/- Package letter: parts. -/
import Derived.Test.YthdhifnafgidaaaZB
namespace Go.Proofs.Ythdhifnafgidaaa
open Go.RowKit

theorem box3_ {w : World} {b : Nat} {x y z : Value} {t : TypeId} {fr : Nat × Nat} (h : w.heap[b]? = some (.cells #[x, y, z] t fr)) : w.cell? ⟨b, 0, none⟩ = some x ∧ w.cell? ⟨b, 1, none⟩ = some y ∧ w.cell? ⟨b, 2, none⟩ = some z := by
  simp [World.cell?, h]
theorem frozen_of {w : World} {b : Nat} {cs : Array Value} {t : TypeId} (h : w.heap[b]? = some (.cells cs t (0, 0))) (i : Nat) : w.frozen? ⟨b, i, none⟩ = false := by
  unfold World.frozen?
  rw [show (⟨b, i, none⟩ : Addr).block = b from rfl, h]
  simp
set_option maxRecDepth 100000 in
theorem integer_any (n : Int) (w : World) : Calls Try.prog 50 #[.int .i64 n] w (Ans (.agg #[.int .i64 2, .int .i64 n, .string ⟨#[]⟩]) w) := by
  go_enter Try.func50, Try.ntmps50
  go_wp2_with fail
  refine bodyPost_ret (v := .agg #[.int .i64 2, .int .i64 n, .string ⟨#[]⟩]) (by simp [results, Try.results50, go_sem]) rfl ?_
  exact ⟨rfl, alloc_below _ _⟩
theorem or64 {a b : Nat} (ha : a < 65536) (hb : b < 65536) : bits .or .i64 (a : Int) (b : Int) = ((a ||| b : Nat) : Int) := by
  have h1 : (BitVec.ofInt 64 (a : Int)).toNat = a := by rw [BitVec.toNat_ofInt]; simp; omega
  have h2 : (BitVec.ofInt 64 (b : Int)).toNat = b := by rw [BitVec.toNat_ofInt]; simp; omega
  have h3 : a ||| b < 65536 := Nat.or_lt_two_pow (n := 16) ha hb
  show IntKind.i64.wrap (((BitVec.ofInt 64 (a : Int)) ||| (BitVec.ofInt 64 (b : Int))).toNat : Int) = _
  rw [BitVec.toNat_or, h1, h2, IntKind.wrap_i64]
  omega
theorem pow16 {y : Int} (h : -1 < y ∧ y < 16) : 2 ^ y.toNat < 65536 := Nat.pow_lt_pow_right (m := y.toNat) (n := 16) (by decide) (by omega)
theorem shl16 {y : Int} (h : -1 < y ∧ y < 16) : wrap64 (2 ^ y.toNat) = ((2 ^ y.toNat : Nat) : Int) := by
  have := pow16 h
  rw [show ((2 : Int) ^ y.toNat) = ((2 ^ y.toNat : Nat) : Int) by simp]
  unfold wrap64
  generalize 2 ^ y.toNat = p at *
  omega
theorem take_up {a : Int} : ∀ {ns : List Int} {i : Nat}, upN a ns = true → upN a (ns.take i) = true := fun {ns i} h =>
  up_of_sorted ((up_sorted h).sublist (List.take_sublist i ns)) fun n hn => up_mem h n (List.mem_of_mem_take hn)
def PBL (ns : List Int) (v3 v9 : Value) : Prop := ∃ i : Nat, v3 = .int .i64 ((orB 0 (ns.take i) : Nat) : Int) ∧ v9 = .int .i64 i ∧ i ≤ ns.length
theorem box5' {w : World} {b : Nat} {x y z u v : Value} {t : TypeId} {fr : Nat × Nat} (h : w.heap[b]? = some (.cells #[x, y, z, u, v] t fr)) : w.cell? ⟨b, 0, none⟩ = some x ∧ w.cell? ⟨b, 1, none⟩ = some y ∧ w.cell? ⟨b, 2, none⟩ = some z ∧ w.cell? ⟨b, 3, none⟩ = some u := by
  simp [World.cell?, h]
/-- what parts answers -/
def PaT (w : World) (l : List Val) (e : Ending) (w' : World) : Prop := ∃ A cap, e = .returned (.slice A 5 cap) ∧ RdV w' w'.heap.size A l ∧ Below w.heap.size w w'
theorem rd_five (w : World) (k f t x b : Int) : RdV (w.alloc (.cells #[.int .i64 2, .int .i64 k, .string ⟨#[]⟩, .int .i64 2, .int .i64 f, .string ⟨#[]⟩, .int .i64 2, .int .i64 t, .string ⟨#[]⟩, .int .i64 2, .int .i64 x, .string ⟨#[]⟩, .int .i64 2, .int .i64 b, .string ⟨#[]⟩] 88)) (w.alloc (.cells #[.int .i64 2, .int .i64 k, .string ⟨#[]⟩, .int .i64 2, .int .i64 f, .string ⟨#[]⟩, .int .i64 2, .int .i64 t, .string ⟨#[]⟩, .int .i64 2, .int .i64 x, .string ⟨#[]⟩, .int .i64 2, .int .i64 b, .string ⟨#[]⟩] 88)).heap.size (some ⟨w.heap.size, 0, none⟩) [intV k, intV f, intV t, intV x, intV b] := fun _ => by
  have hh : (w.alloc (.cells #[.int .i64 2, .int .i64 k, .string ⟨#[]⟩, .int .i64 2, .int .i64 f, .string ⟨#[]⟩, .int .i64 2, .int .i64 t, .string ⟨#[]⟩, .int .i64 2, .int .i64 x, .string ⟨#[]⟩, .int .i64 2, .int .i64 b, .string ⟨#[]⟩] 88)).heap[w.heap.size]? = _ := heap_alloc_new w _
  refine ⟨_, 0, rfl, by simp, fun j y hy => ?_⟩
  rw [cell_of_row _ _ _ _ _ (0, 0) hh, cell_of_row _ _ _ _ _ (0, 0) hh, cell_of_row _ _ _ _ _ (0, 0) hh]
  match j with
  | 0 => simp [intV] at hy; subst hy; exact ⟨rfl, rfl, rfl⟩
  | 1 => simp [intV] at hy; subst hy; exact ⟨rfl, rfl, rfl⟩
  | 2 => simp [intV] at hy; subst hy; exact ⟨rfl, rfl, rfl⟩
  | 3 => simp [intV] at hy; subst hy; exact ⟨rfl, rfl, rfl⟩
  | 4 => simp [intV] at hy; subst hy; exact ⟨rfl, rfl, rfl⟩
  | j + 5 => simp at hy
theorem PaT.mk' {w W : World} {k f t x b : Int} {ns : List Int} (hb : Below w.heap.size w W) (h5 : b = ((orB 0 ns : Nat) : Int)) : PaT w (Ltr.row ⟨k, f, t, x, ns⟩) (.returned (.slice (some ⟨W.heap.size, 0, none⟩) 5 5)) (W.alloc (.cells #[.int .i64 2, .int .i64 k, .string ⟨#[]⟩, .int .i64 2, .int .i64 f, .string ⟨#[]⟩, .int .i64 2, .int .i64 t, .string ⟨#[]⟩, .int .i64 2, .int .i64 x, .string ⟨#[]⟩, .int .i64 2, .int .i64 b, .string ⟨#[]⟩] 88)) := by
  subst h5
  exact ⟨_, _, rfl, rd_five W k f t x _, hb.trans ((alloc_below W _).mono hb.size)⟩
set_option maxRecDepth 100000 in
set_option maxHeartbeats 4000000 in
theorem parts_any (k f t x : Int) (ns : List Int) (hR : Ltr.right ⟨k, f, t, x, ns⟩ = true) (A : Option Addr) (n cap : Nat) (hn : ns.length = n) (w : World) (hr : RdI w w.heap.size A ns) :
    Calls Try.prog 39 #[.agg #[.int .i64 k, .int .i64 f, .int .i64 t, .int .i64 x, .slice A n cap]] w (PaT w (Ltr.row ⟨k, f, t, x, ns⟩)) := by
  have hn2 : n ≤ 16 := by
    have := up_len (by omega) (by omega) (Ltr.up hR)
    simp only at this
    omega
  obtain ⟨w0, hw0⟩ : ∃ w0, w0 = w.alloc (.cells #[.int .i64 k, .int .i64 f, .int .i64 t, .int .i64 x, .slice A n cap] 32) := ⟨_, rfl⟩
  have hb0 : Below w.heap.size w w0 := by rw [hw0]; exact alloc_below w _
  have HB := Lib.hid hb0
  have hbx : w0.heap[w.heap.size]? = some (.cells #[.int .i64 k, .int .i64 f, .int .i64 t, .int .i64 x, .slice A n cap] 32 (0, 0)) := by rw [hw0]; exact heap_alloc_new w _
  have HR := Lib.hid (hr.below HB.out (Nat.le_refl _))
  obtain ⟨x0, x1, x2, x3, x4⟩ := box5 hbx
  have HU := Lib.hid (Ltr.up hR)
  have HN := Lib.hid hn
  have HX := Lib.hid hbx
  have HST : Hid (PBL ns (.int .i64 0) (.int .i64 0)) := Lib.hid ⟨0, rfl, rfl, Nat.zero_le _⟩
  have hni : (n : Int) ≤ 16 := by omega
  have HPT : Hid (∀ W b5, Below w.heap.size w W → b5 = ((orB 0 ns : Nat) : Int) → PaT w (Ltr.row ⟨k, f, t, x, ns⟩) (.returned (.slice (some ⟨W.heap.size, 0, none⟩) 5 5)) (W.alloc (.cells #[.int .i64 2, .int .i64 k, .string ⟨#[]⟩, .int .i64 2, .int .i64 f, .string ⟨#[]⟩, .int .i64 2, .int .i64 t, .string ⟨#[]⟩, .int .i64 2, .int .i64 x, .string ⟨#[]⟩, .int .i64 2, .int .i64 b5, .string ⟨#[]⟩] 88))) := Lib.hid fun W b5 hb h5 => PaT.mk' hb h5
  clear hr hbx hn hn2 hR hb0
  subst hw0
  go_enter Try.func39, Try.ntmps39
  go_wp2_with fail
  go_loop [3, 9] (fun v3 v9 => PBL ns v3 v9) (fun _ v9 => n - (intOf v9).toNat)
  case atStart => exact HST.out
  case round =>
    obtain ⟨i, rfl, rfl, hi⟩ := hrel
    by_cases hlt : i < n
    · obtain ⟨y, hx⟩ : ∃ x, ns[i]? = some x := ⟨_, List.getElem?_eq_getElem (by rw [HN.out]; exact hlt)⟩
      obtain ⟨b, o, hA, hbg, hc⟩ := HR.out.at_ hx
      subst hA
      have hy := up_mem HU.out y (List.mem_of_getElem? hx)
      have hlti : (i : Int) < (n : Int) := by omega
      have hy0 : 0 ≤ y := by omega
      have hy1 : ¬ y < 0 := by omega
      have hy2 : ¬ 64 ≤ y := by omega
      obtain ⟨u, hu⟩ : ∃ u, Hid (u = orB 0 (ns.take i)) := ⟨_, Lib.hid rfl⟩
      rw [← hu.out]
      have HY : Hid (∀ v9, v9 = .int .i64 ((i + 1 : Nat) : Int) → PBL ns (.int .i64 (bits .or .i64 (u : Int) (wrap64 (2 ^ y.toNat)))) v9) := Lib.hid fun v9 h9 => ⟨i + 1, by
        rw [shl16 hy, or64 (by rw [hu.out]; exact or_lt (by omega) (take_up HU.out) (by decide)) (pow16 hy), List.take_add_one, hx, Option.toList_some, orB_snoc, ← hu.out], h9, by rw [HN.out]; exact hlt⟩
      clear hy hi hx hbg
      go_wp2_with fail
      go_round
      case rel => exact HY.out _ (by go_num)
      case measure => simp [intOf]; omega
    · have hie : i = n := by rw [HN.out] at hi; omega
      subst hie
      have hlti : ¬ (i : Int) < (i : Int) := by omega
      obtain ⟨u, hu⟩ : ∃ u, Hid (u = orB 0 (ns.take i)) := ⟨_, Lib.hid rfl⟩
      rw [← hu.out]
      have HU2 : Hid (u = orB 0 ns) := Lib.hid (by rw [hu.out, List.take_of_length_le (by rw [HN.out]; exact Nat.le_refl _)])
      clear hlt hi
      go_wp2_with fail
      have HB := Lib.hid (HB.out.trans ((drew_below _).mono HB.out.size))
      have HX := Lib.hid (((drew_below _).block _ (Array.getElem?_eq_some_iff.1 HX.out).1).trans HX.out)
      go_region_held3 (fun W => W.cell? ⟨w.heap.size, 0, none⟩ = some (.int .i64 k) ∧ W.cell? ⟨w.heap.size, 1, none⟩ = some (.int .i64 f) ∧ W.cell? ⟨w.heap.size, 2, none⟩ = some (.int .i64 t) ∧ W.cell? ⟨w.heap.size, 3, none⟩ = some (.int .i64 x))
        (first | exact (box5' HX.out) | go_keep)
        (first
          | (go_at_call 50; refine (integer_any _ _).mono ?_; rintro e w2 ⟨rfl, hb⟩
             have HB := Lib.hid (HB.out.trans (hb.mono HB.out.size))
             have HX := Lib.hid ((hb.block _ (Array.getElem?_eq_some_iff.1 HX.out).1).trans HX.out); clear hb)
          | fail)
      go_wp2_with fail
      go_ret
      exact HPT.out _ _ HB.out (by rw [HU2.out])
end Go.Proofs.Ythdhifnafgidaaa
