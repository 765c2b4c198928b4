/- Numbers as short bytes, in plain mathematics: 7 bits a byte, the lowest ones ahead. -/
import Derived.Test.YtkohppalfcalbaaGreatKA
import Derived.Test.YtkohppalfcalbaaGreatKB
import Derived.Test.YtkohppalfcalbaaGreatKX
import Derived.Laws.BitsAllLaws
import Derived.Lib.Zigzag
namespace Go.Proofs.YtkohppalfcalbaaGreat
section
/-- the short one of a number that is not negative -/
def vL (u : Nat) : List UInt8 := if _h : u < 128 then [UInt8.ofNat u] else UInt8.ofNat (u % 128 + 128) :: vL (u / 128)
termination_by u
decreasing_by omega
theorem vL_lo {u : Nat} (h : u < 128) : vL u = [UInt8.ofNat u] := by rw [vL, dif_pos h]
theorem vL_hi {u : Nat} (h : ¬ u < 128) : vL u = UInt8.ofNat (u % 128 + 128) :: vL (u / 128) := by rw [vL, dif_neg h]
theorem vL_len (k u : Nat) (h : u < 128 ^ (k + 1)) : (vL u).length ≤ k + 1 := by
  induction k generalizing u with
  | zero => rw [vL_lo (by omega)]; simp
  | succ k ih =>
    by_cases hu : u < 128
    · rw [vL_lo hu]; simp
    · rw [vL_hi hu, List.length_cons]
      have := ih (u / 128) (by rw [Nat.pow_succ] at h; omega)
      omega
theorem vL_10 {u : Nat} (h : u < 18446744073709551616) : (vL u).length ≤ 10 := by
  refine vL_len 9 u ?_
  have : (128 : Nat) ^ (9 + 1) = 1180591620717411303424 := by decide
  omega
/-- bytes that are not the last ones -/
def Mor (p : List UInt8) : Prop := ∀ x ∈ p, 128 ≤ x.toNat
theorem Mor.nil : Mor [] := fun x hx => by simp at hx
theorem Mor.tail {a : UInt8} {p : List UInt8} (h : Mor (a :: p)) : Mor p := fun x hx => h x (by simp [hx])
/-- a number with its sign at the lowest bit -/
def zig (n : Int) : Nat := if 0 ≤ n then (2 * n).toNat else (-2 * n - 1).toNat
theorem zig_lt {n : Int} (h : -9223372036854775808 ≤ n) (h2 : n ≤ 9223372036854775807) : zig n < 18446744073709551616 := by
  unfold zig; split <;> omega
end

section
/-- what stands behind a value's kind -/
def bodyR (k n : Int) (l : List UInt8) : List UInt8 := if k = 1 then [UInt8.ofNat n.toNat] else if k = 2 ∨ k = 3 then vL (zig n) else if k = 4 ∨ k = 5 then vL (zig l.length) ++ l else []
def rowV (x : Val) : List UInt8 := UInt8.ofNat x.k.toNat :: bodyR x.k x.n x.s.data.toList
def rowL (l : List Val) : List UInt8 := l.flatMap rowV
/-- a row's bytes -/
def rowB (l : List Val) : List UInt8 := UInt8.ofNat l.length :: rowL l
theorem rowL_cons (x : Val) (l : List Val) : rowL (x :: l) = rowV x ++ rowL l := by simp [rowL]
theorem rowL_snoc (l : List Val) (x : Val) : rowL (l ++ [x]) = rowL l ++ rowV x := by simp [rowL]
theorem rowV_len {x : Val} (h : x.R) : (rowV x).length ≤ 211 := by
  unfold rowV bodyR
  have hsz : x.s.data.toList.length = x.s.size := by simp
  have hc := h.cases
  simp only [List.length_cons]
  split
  · simp
  · split
    · have h3 : i64ok x.n := h.2.2
      have := vL_10 (zig_lt h3.1 h3.2)
      omega
    · split
      · rw [List.length_append, hsz]
        have := vL_10 (zig_lt (n := (x.s.size : Int)) (by omega) (by omega))
        omega
      · simp
theorem rowL_len {l : List Val} (h : ∀ x ∈ l, x.R) : (rowL l).length ≤ 211 * l.length := by
  induction l with
  | nil => simp [rowL]
  | cons x l ih =>
    have := rowV_len (h x (by simp))
    have := ih fun y hy => h y (by simp [hy])
    rw [rowL_cons, List.length_append, List.length_cons]
    omega
end

section
open Go.RowKit

theorem zig_xor {n : Int} (h : i64ok n) : bits BinOp.xor IntKind.u64 (IntKind.u64.wrap (wrap64 (n * 2))) (IntKind.u64.wrap (n / 9223372036854775808)) = (zig n : Int) := by
  obtain ⟨h1, h2⟩ := h
  by_cases h0 : 0 ≤ n
  · have e1 : IntKind.u64.wrap (wrap64 (n * 2)) = ((2 * n).toNat : Int) := by rw [IntKind.wrap_u64]; unfold wrap64; omega
    have e2 : IntKind.u64.wrap (n / 9223372036854775808) = ((0 : Nat) : Int) := by rw [IntKind.wrap_u64]; omega
    rw [e1, e2, u64_xor_nat _ _ (by omega) (by omega), Nat.xor_zero]
    unfold zig
    rw [if_pos h0]
  · have e1 : IntKind.u64.wrap (wrap64 (n * 2)) = ((2 * n + 18446744073709551616).toNat : Int) := by rw [IntKind.wrap_u64]; unfold wrap64; omega
    have e2 : IntKind.u64.wrap (n / 9223372036854775808) = ((2 ^ 64 - 1 : Nat) : Int) := by rw [IntKind.wrap_u64]; omega
    rw [e1, e2, u64_xor_nat _ _ (by omega) (by omega), Nat.xor_comm, Lib.xor_ones64 _ (by omega)]
    unfold zig
    rw [if_neg h0]
    omega
theorem or_hi (u : Nat) : bits BinOp.or IntKind.u8 (IntKind.u8.wrap (u : Int)) 128 = ((UInt8.ofNat (u % 128 + 128)).toNat : Int) := by
  have e1 : IntKind.u8.wrap (u : Int) = ((u % 256 : Nat) : Int) := by rw [IntKind.wrap_u8]; omega
  rw [ofNat_toNat (by omega), e1]
  have h := u8_or_nat (u % 256) 128 (by omega) (by omega)
  have e2 : ((128 : Nat) : Int) = 128 := rfl
  rw [e2] at h
  rw [h]
  have h3 : ∀ x : Fin 256, x.val ||| 128 = x.val % 128 + 128 := by decide +kernel
  have h4 := h3 ⟨u % 256, by omega⟩
  simp only at h4
  rw [h4]
  omega
/-- what Short answers -/
def ShortTo (w : World) (n : Int) (e : Ending) (w' : World) : Prop := ∃ v, e = .returned v ∧ OwnB w' w.heap.size v (vL (zig n)) ∧ Below w.heap.size w w'
/-- at the head of its loop -/
def SHL (w : World) (n : Int) (v3 v4 : Value) (wr : World) : Prop := ∃ (u : Nat) (acc : List UInt8) (y : Value), y = v4 ∧ v3 = .int .u64 u ∧ u < 18446744073709551616 ∧ vL (zig n) = acc ++ vL u ∧ OwnB wr w.heap.size y acc ∧ Below w.heap.size w wr
set_option maxRecDepth 100000 in
set_option maxHeartbeats 4000000 in
theorem short_any (n : Int) (hn : i64ok n) (w : World) : Calls Tryz.prog 169 #[.int .i64 n] w (ShortTo w n) := by
  obtain ⟨i0, hi0, hz0, hz1, hz2⟩ := info_parts info8
  have HZ := Lib.hid (zig_xor hn)
  have HN := Lib.hid hn
  clear hn
  go_enter Tryz.func169, Tryz.ntmps169
  go_wp2_with fail
  go_loopw [3, 4] (fun v3 v4 wr => SHL w n v3 v4 wr) (fun v3 _ _ => (intOf v3).toNat)
  case atStart => exact ⟨zig n, [], _, rfl, by rw [HZ.out], zig_lt HN.out.1 HN.out.2, rfl, OwnB.nil _ _, Below.refl _ _⟩
  case round =>
    obtain ⟨u, acc, y, rfl, rfl, hu, he, ho, hb⟩ := hrel
    have HO := Lib.hid ho
    have HE := Lib.hid he
    have HB := Lib.hid hb
    have HU := Lib.hid hu
    have HM : Hid (acc.length + 1 ≤ 1000000) := Lib.hid (by
      have h1 := congrArg List.length he
      rw [List.length_append] at h1
      have h2 := vL_10 (zig_lt HN.out.1 HN.out.2)
      omega)
    have HBZ : Hid (∀ o, w.heap.size ≤ (wr.alloc o).heap.size) := Lib.hid fun o => by have := HB.out.size; simp; omega
    obtain ⟨A2, cap2, hv, hcap2⟩ := ho.2
    subst hv
    clear ho he hb hcap2 hu
    by_cases h : u < 128
    · have hi : ¬ (128 : Int) ≤ (u : Int) := by omega
      have hi2 : (u : Int) < 128 := by omega
      have HQ : Hid (IntKind.u8.wrap (u : Int) = ((UInt8.ofNat u).toNat : Int)) := Lib.hid (by rw [ofNat_toNat (by omega), IntKind.wrap_u8]; omega)
      have HV : Hid (vL u = [UInt8.ofNat u]) := Lib.hid (vL_lo h)
      clear h
      go_wp2_with (at_builtin
                   refine wpList_appB rfl _ _ 22 rfl (B := w.heap.size) Tryz.underlying22 hi0 hz0 hz1 hz2 rfl (HO.out.below (alloc_below _ _)) rfl rfl (rd_one _ _ (UInt8.ofNat u) (by first | exact HQ.out | (rw [← HQ.out]; rw [IntKind.wrap_u8]; omega))) HM.out (HBZ.out _) ?_
                   intro v5 w5 ho5 hg5
                   have HY : Hid (ShortTo w n (.returned v5) w5) := Lib.hid ⟨v5, rfl, by rw [HE.out, HV.out]; exact ho5, HB.out.trans (((alloc_below wr _).mono HB.out.size).trans (hg5.toBelow (HBZ.out _) HO.out.ge))⟩
                   clear ho5 hg5)
      go_ret
      exact HY.out
    · have h2 : (128 : Int) ≤ (u : Int) := by omega
      have HQ : Hid (bits BinOp.or IntKind.u8 (IntKind.u8.wrap (u : Int)) 128 = ((UInt8.ofNat (u % 128 + 128)).toNat : Int)) := Lib.hid (or_hi u)
      have HV : Hid (vL u = UInt8.ofNat (u % 128 + 128) :: vL (u / 128)) := Lib.hid (vL_hi h)
      have HD : Hid ((u : Int) / 128 = ((u / 128 : Nat) : Int)) := Lib.hid (by omega)
      clear h
      go_wp2_with (at_builtin
                   refine wpList_appB rfl _ _ 22 rfl (B := w.heap.size) Tryz.underlying22 hi0 hz0 hz1 hz2 rfl (HO.out.below (alloc_below _ _)) rfl rfl (rd_one _ _ (UInt8.ofNat (u % 128 + 128)) HQ.out) HM.out (HBZ.out _) ?_
                   intro v5 w5 ho5 hg5
                   have HY : Hid (∀ v3, v3 = .int .u64 ((u / 128 : Nat) : Int) → SHL w n v3 v5 w5) := Lib.hid (fun v3 h3 => ⟨u / 128, acc ++ [UInt8.ofNat (u % 128 + 128)], v5, rfl, h3, by have := HU.out; omega, by rw [HE.out, HV.out, List.append_assoc]; rfl, ho5, HB.out.trans (((alloc_below wr _).mono HB.out.size).trans (hg5.toBelow (HBZ.out _) HO.out.ge))⟩)
                   clear ho5 hg5)
      go_roundw
      case rel => first | exact HY.out _ (by rw [HD.out]) | ((repeat apply Exists.intro); exact ⟨HY.out _ (by rw [HD.out]), rfl⟩)
      case measure => simp [intOf]; omega
end
end Go.Proofs.YtkohppalfcalbaaGreat
