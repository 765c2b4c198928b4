/- Numbers as short bytes, in plain mathematics: 7 bits a byte, the lowest ones ahead. -/
import Derived.Test.YtkohppalfcalbaaGreatKA
import Derived.Test.YtkohppalfcalbaaGreatKB
import Derived.Test.YtkohppalfcalbaaGreatKX
import Derived.Laws.BitsAllLaws
import Derived.Lib.Zigzag
namespace Go.Proofs.YtkohppalfcalbaaGreat
section
/-- the short one of a number that is not negative -/
def vL (u : Nat) : List UInt8 := if _h : u < 128 then [UInt8.ofNat u] else UInt8.ofNat (u % 128 + 128) :: vL (u / 128)
termination_by u
decreasing_by omega
theorem vL_lo {u : Nat} (h : u < 128) : vL u = [UInt8.ofNat u] := by rw [vL, dif_pos h]
theorem vL_hi {u : Nat} (h : ¬ u < 128) : vL u = UInt8.ofNat (u % 128 + 128) :: vL (u / 128) := by rw [vL, dif_neg h]
theorem vL_len (k u : Nat) (h : u < 128 ^ (k + 1)) : (vL u).length ≤ k + 1 := by
  induction k generalizing u with
  | zero => rw [vL_lo (by omega)]; simp
  | succ k ih =>
    by_cases hu : u < 128
    · rw [vL_lo hu]; simp
    · rw [vL_hi hu, List.length_cons]
      have := ih (u / 128) (by rw [Nat.pow_succ] at h; omega)
      omega
theorem vL_10 {u : Nat} (h : u < 18446744073709551616) : (vL u).length ≤ 10 := by
  refine vL_len 9 u ?_
  have : (128 : Nat) ^ (9 + 1) = 1180591620717411303424 := by decide
  omega
/-- bytes that are not the last ones -/
def Mor (p : List UInt8) : Prop := ∀ x ∈ p, 128 ≤ x.toNat
theorem Mor.nil : Mor [] := fun x hx => by simp at hx
theorem vL_inj {u v : Nat} {r s : List UInt8} (h : vL u ++ r = vL v ++ s) : u = v ∧ r = s := by
  induction u using Nat.strongRecOn generalizing v with
  | ind u ih =>
    by_cases hu : u < 128
    · by_cases hv : v < 128
      · rw [vL_lo hu, vL_lo hv] at h
        simp only [List.cons_append, List.cons.injEq, List.nil_append] at h
        have := congrArg UInt8.toNat h.1
        rw [ofNat_toNat (by omega), ofNat_toNat (by omega)] at this
        exact ⟨this, h.2⟩
      · rw [vL_lo hu, vL_hi hv] at h
        simp only [List.cons_append, List.cons.injEq, List.nil_append] at h
        have := congrArg UInt8.toNat h.1
        rw [ofNat_toNat (by omega), ofNat_toNat (by omega)] at this
        omega
    · by_cases hv : v < 128
      · rw [vL_hi hu, vL_lo hv] at h
        simp only [List.cons_append, List.cons.injEq, List.nil_append] at h
        have := congrArg UInt8.toNat h.1
        rw [ofNat_toNat (by omega), ofNat_toNat (by omega)] at this
        omega
      · rw [vL_hi hu, vL_hi hv] at h
        simp only [List.cons_append, List.cons.injEq] at h
        have h0 := congrArg UInt8.toNat h.1
        rw [ofNat_toNat (by omega), ofNat_toNat (by omega)] at h0
        obtain ⟨h1, h2⟩ := ih (u / 128) (by omega) h.2
        exact ⟨by omega, h2⟩
/-- a number with its sign at the lowest bit -/
def zig (n : Int) : Nat := if 0 ≤ n then (2 * n).toNat else (-2 * n - 1).toNat
def zag (u : Nat) : Int := if u % 2 = 0 then ((u / 2 : Nat) : Int) else -((u / 2 : Nat) : Int) - 1
theorem zag_zig (n : Int) : zag (zig n) = n := by
  unfold zag zig
  by_cases h : 0 ≤ n
  · rw [if_pos h, if_pos (by omega)]; omega
  · rw [if_neg h, if_neg (by omega)]; omega
theorem zig_lt {n : Int} (h : -9223372036854775808 ≤ n) (h2 : n ≤ 9223372036854775807) : zig n < 18446744073709551616 := by
  unfold zig; split <;> omega
end

section
/-- what stands behind a value's kind -/
def bodyR (k n : Int) (l : List UInt8) : List UInt8 := if k = 1 then [UInt8.ofNat n.toNat] else if k = 2 ∨ k = 3 then vL (zig n) else if k = 4 ∨ k = 5 then vL (zig l.length) ++ l else []
def rowV (x : Val) : List UInt8 := UInt8.ofNat x.k.toNat :: bodyR x.k x.n x.s.data.toList
def rowL (l : List Val) : List UInt8 := l.flatMap rowV
/-- a row's bytes -/
def rowB (l : List Val) : List UInt8 := UInt8.ofNat l.length :: rowL l
theorem rowL_cons (x : Val) (l : List Val) : rowL (x :: l) = rowV x ++ rowL l := by simp [rowL]
theorem rowL_snoc (l : List Val) (x : Val) : rowL (l ++ [x]) = rowL l ++ rowV x := by simp [rowL]
theorem zig_inj {n m : Int} (h : zig n = zig m) : n = m := by rw [← zag_zig n, h, zag_zig]
theorem R_k {x : Val} (h : x.R) : 0 ≤ x.k ∧ x.k ≤ 5 := by rcases h.cases with h | h | h | h <;> omega
theorem bodyR_inj {k n m : Int} {l r x y : List UInt8} (h1 : k = 1 → (n = 0 ∨ n = 1) ∧ (m = 0 ∨ m = 1) ∧ l = [] ∧ r = []) (h2 : k = 2 ∨ k = 3 → l = [] ∧ r = []) (h4 : k = 4 ∨ k = 5 → n = 0 ∧ m = 0) (h0 : ¬ (k = 1 ∨ k = 2 ∨ k = 3 ∨ k = 4 ∨ k = 5) → n = m ∧ l = r)
    (h : bodyR k n l ++ x = bodyR k m r ++ y) : n = m ∧ l = r ∧ x = y := by
  unfold bodyR at h
  by_cases e1 : k = 1
  · obtain ⟨a, b, rfl, rfl⟩ := h1 e1
    rw [if_pos e1, if_pos e1] at h
    simp only [List.cons_append, List.nil_append, List.cons.injEq] at h
    have g := congrArg UInt8.toNat h.1
    rw [ofNat_toNat (by omega), ofNat_toNat (by omega)] at g
    exact ⟨by omega, rfl, h.2⟩
  · rw [if_neg e1, if_neg e1] at h
    by_cases e2 : k = 2 ∨ k = 3
    · obtain ⟨rfl, rfl⟩ := h2 e2
      rw [if_pos e2, if_pos e2] at h
      obtain ⟨a, b⟩ := vL_inj h
      exact ⟨zig_inj a, rfl, b⟩
    · rw [if_neg e2, if_neg e2] at h
      by_cases e4 : k = 4 ∨ k = 5
      · obtain ⟨rfl, rfl⟩ := h4 e4
        rw [if_pos e4, if_pos e4, List.append_assoc, List.append_assoc] at h
        obtain ⟨a, b⟩ := vL_inj h
        have hl : l.length = r.length := by have := zig_inj a; omega
        obtain ⟨c, d⟩ := List.append_inj b hl
        exact ⟨rfl, c, d⟩
      · rw [if_neg e4, if_neg e4] at h
        obtain ⟨rfl, rfl⟩ := h0 (by omega)
        exact ⟨rfl, rfl, h⟩
theorem rowV_inj {x y : Val} (hx : x.R) (hy : y.R) {u v : List UInt8} (h : rowV x ++ u = rowV y ++ v) : x = y ∧ u = v := by
  unfold rowV at h
  rw [List.cons_append, List.cons_append, List.cons.injEq] at h
  have kx := R_k hx
  have ky := R_k hy
  have g := congrArg UInt8.toNat h.1
  rw [ofNat_toNat (by omega), ofNat_toNat (by omega)] at g
  have hk : x.k = y.k := by omega
  have h2 := h.2
  rw [hk] at h2
  have hxc := hx.cases
  have hyc := hy.cases
  obtain ⟨a, b, c⟩ := bodyR_inj
      (fun e => by
        rcases hxc with g | g | g | g
        · omega
        · rcases hyc with f | f | f | f
          · omega
          · exact ⟨g.2.1, f.2.1, by rw [g.2.2], by rw [f.2.2]⟩
          · omega
          · omega
        · omega
        · omega)
      (fun e => by
        rcases hxc with g | g | g | g
        · omega
        · omega
        · rcases hyc with f | f | f | f
          · omega
          · omega
          · exact ⟨by rw [g.2.1], by rw [f.2.1]⟩
          · omega
        · omega)
      (fun e => by
        rcases hxc with g | g | g | g
        · omega
        · omega
        · omega
        · rcases hyc with f | f | f | f
          · omega
          · omega
          · omega
          · exact ⟨g.2.1, f.2.1⟩)
      (fun e => by
        rcases hxc with g | g | g | g
        · rcases hyc with f | f | f | f
          · exact ⟨by rw [g.2.1, f.2.1], by rw [g.2.2, f.2.2]⟩
          · omega
          · omega
          · omega
        · omega
        · omega
        · omega) h2
  exact ⟨Val.ext' hk a (bytes_ext b), c⟩
theorem rowL_inj {a b : List Val} (ha : ∀ x ∈ a, x.R) (hb : ∀ x ∈ b, x.R) (hl : a.length = b.length) {u v : List UInt8} (h : rowL a ++ u = rowL b ++ v) : a = b ∧ u = v := by
  induction a generalizing b with
  | nil => cases b with
    | nil => exact ⟨rfl, h⟩
    | cons y b => simp at hl
  | cons x a ih => cases b with
    | nil => simp at hl
    | cons y b =>
      rw [rowL_cons, rowL_cons, List.append_assoc, List.append_assoc] at h
      obtain ⟨rfl, h2⟩ := rowV_inj (ha x (by simp)) (hb y (by simp)) h
      obtain ⟨rfl, h3⟩ := ih (fun z hz => ha z (by simp [hz])) (fun z hz => hb z (by simp [hz])) (by simpa using hl) h2
      exact ⟨rfl, h3⟩
/-- no row's bytes begin another one's -/
theorem rowB_inj {a b : List Val} (ha : ∀ x ∈ a, x.R) (hb : ∀ x ∈ b, x.R) (la : a.length ≤ 16) (lb : b.length ≤ 16) {u v : List UInt8} (h : rowB a ++ u = rowB b ++ v) : a = b ∧ u = v := by
  unfold rowB at h
  rw [List.cons_append, List.cons_append, List.cons.injEq] at h
  have g := congrArg UInt8.toNat h.1
  rw [ofNat_toNat (by omega), ofNat_toNat (by omega)] at g
  exact rowL_inj ha hb g h.2
theorem rowV_len {x : Val} (h : x.R) : (rowV x).length ≤ 211 := by
  unfold rowV bodyR
  have hsz : x.s.data.toList.length = x.s.size := by simp
  have hc := h.cases
  simp only [List.length_cons]
  split
  · simp
  · split
    · have h3 : i64ok x.n := h.2.2
      have := vL_10 (zig_lt h3.1 h3.2)
      omega
    · split
      · rw [List.length_append, hsz]
        have := vL_10 (zig_lt (n := (x.s.size : Int)) (by omega) (by omega))
        omega
      · simp
theorem rowL_len {l : List Val} (h : ∀ x ∈ l, x.R) : (rowL l).length ≤ 211 * l.length := by
  induction l with
  | nil => simp [rowL]
  | cons x l ih =>
    have := rowV_len (h x (by simp))
    have := ih fun y hy => h y (by simp [hy])
    rw [rowL_cons, List.length_append, List.length_cons]
    omega
end

section
open Go.RowKit

theorem zig_xor {n : Int} (h : i64ok n) : bits BinOp.xor IntKind.u64 (IntKind.u64.wrap (wrap64 (n * 2))) (IntKind.u64.wrap (n / 9223372036854775808)) = (zig n : Int) := by
  obtain ⟨h1, h2⟩ := h
  by_cases h0 : 0 ≤ n
  · have e1 : IntKind.u64.wrap (wrap64 (n * 2)) = ((2 * n).toNat : Int) := by rw [IntKind.wrap_u64]; unfold wrap64; omega
    have e2 : IntKind.u64.wrap (n / 9223372036854775808) = ((0 : Nat) : Int) := by rw [IntKind.wrap_u64]; omega
    rw [e1, e2, u64_xor_nat _ _ (by omega) (by omega), Nat.xor_zero]
    unfold zig
    rw [if_pos h0]
  · have e1 : IntKind.u64.wrap (wrap64 (n * 2)) = ((2 * n + 18446744073709551616).toNat : Int) := by rw [IntKind.wrap_u64]; unfold wrap64; omega
    have e2 : IntKind.u64.wrap (n / 9223372036854775808) = ((2 ^ 64 - 1 : Nat) : Int) := by rw [IntKind.wrap_u64]; omega
    rw [e1, e2, u64_xor_nat _ _ (by omega) (by omega), Nat.xor_comm, Lib.xor_ones64 _ (by omega)]
    unfold zig
    rw [if_neg h0]
    omega
theorem or_hi (u : Nat) : bits BinOp.or IntKind.u8 (IntKind.u8.wrap (u : Int)) 128 = ((UInt8.ofNat (u % 128 + 128)).toNat : Int) := by
  have e1 : IntKind.u8.wrap (u : Int) = ((u % 256 : Nat) : Int) := by rw [IntKind.wrap_u8]; omega
  rw [ofNat_toNat (by omega), e1]
  have h := u8_or_nat (u % 256) 128 (by omega) (by omega)
  have e2 : ((128 : Nat) : Int) = 128 := rfl
  rw [e2] at h
  rw [h]
  have h3 : ∀ x : Fin 256, x.val ||| 128 = x.val % 128 + 128 := by decide +kernel
  have h4 := h3 ⟨u % 256, by omega⟩
  simp only at h4
  rw [h4]
  omega
/-- what Short answers -/
def ShortTo (w : World) (n : Int) (e : Ending) (w' : World) : Prop := ∃ v, e = .returned v ∧ OwnB w' w.heap.size v (vL (zig n)) ∧ Below w.heap.size w w'
/-- at the head of its loop -/
def SHL (w : World) (n : Int) (v3 v4 : Value) (wr : World) : Prop := ∃ (u : Nat) (acc : List UInt8) (y : Value), y = v4 ∧ v3 = .int .u64 u ∧ u < 18446744073709551616 ∧ vL (zig n) = acc ++ vL u ∧ OwnB wr w.heap.size y acc ∧ Below w.heap.size w wr
set_option maxRecDepth 100000 in
set_option maxHeartbeats 4000000 in
theorem short_any (n : Int) (hn : i64ok n) (w : World) : Calls Tryz.prog 169 #[.int .i64 n] w (ShortTo w n) := by
  obtain ⟨i0, hi0, hz0, hz1, hz2⟩ := info_parts info8
  have HZ := Lib.hid (zig_xor hn)
  have HN := Lib.hid hn
  clear hn
  go_enter Tryz.func169, Tryz.ntmps169
  go_wp2_with fail
  go_loopw [3, 4] (fun v3 v4 wr => SHL w n v3 v4 wr) (fun v3 _ _ => (intOf v3).toNat)
  case atStart => exact ⟨zig n, [], _, rfl, by rw [HZ.out], zig_lt HN.out.1 HN.out.2, rfl, OwnB.nil _ _, Below.refl _ _⟩
  case round =>
    obtain ⟨u, acc, y, rfl, rfl, hu, he, ho, hb⟩ := hrel
    have HO := Lib.hid ho
    have HE := Lib.hid he
    have HB := Lib.hid hb
    have HU := Lib.hid hu
    have HM : Hid (acc.length + 1 ≤ 1000000) := Lib.hid (by
      have h1 := congrArg List.length he
      rw [List.length_append] at h1
      have h2 := vL_10 (zig_lt HN.out.1 HN.out.2)
      omega)
    have HBZ : Hid (∀ o, w.heap.size ≤ (wr.alloc o).heap.size) := Lib.hid fun o => by have := HB.out.size; simp; omega
    obtain ⟨A2, cap2, hv, hcap2⟩ := ho.2
    subst hv
    clear ho he hb hcap2 hu
    by_cases h : u < 128
    · have hi : ¬ (128 : Int) ≤ (u : Int) := by omega
      have hi2 : (u : Int) < 128 := by omega
      have HQ : Hid (IntKind.u8.wrap (u : Int) = ((UInt8.ofNat u).toNat : Int)) := Lib.hid (by rw [ofNat_toNat (by omega), IntKind.wrap_u8]; omega)
      have HV : Hid (vL u = [UInt8.ofNat u]) := Lib.hid (vL_lo h)
      clear h
      go_wp2_with (at_builtin
                   refine wpList_appB rfl _ _ 22 rfl (B := w.heap.size) Tryz.underlying22 hi0 hz0 hz1 hz2 rfl (HO.out.below (alloc_below _ _)) rfl rfl (rd_one _ _ (UInt8.ofNat u) (by first | exact HQ.out | (rw [← HQ.out]; rw [IntKind.wrap_u8]; omega))) HM.out (HBZ.out _) ?_
                   intro v5 w5 ho5 hg5
                   have HY : Hid (ShortTo w n (.returned v5) w5) := Lib.hid ⟨v5, rfl, by rw [HE.out, HV.out]; exact ho5, HB.out.trans (((alloc_below wr _).mono HB.out.size).trans (hg5.toBelow (HBZ.out _) HO.out.ge))⟩
                   clear ho5 hg5)
      go_ret
      exact HY.out
    · have h2 : (128 : Int) ≤ (u : Int) := by omega
      have HQ : Hid (bits BinOp.or IntKind.u8 (IntKind.u8.wrap (u : Int)) 128 = ((UInt8.ofNat (u % 128 + 128)).toNat : Int)) := Lib.hid (or_hi u)
      have HV : Hid (vL u = UInt8.ofNat (u % 128 + 128) :: vL (u / 128)) := Lib.hid (vL_hi h)
      have HD : Hid ((u : Int) / 128 = ((u / 128 : Nat) : Int)) := Lib.hid (by omega)
      clear h
      go_wp2_with (at_builtin
                   refine wpList_appB rfl _ _ 22 rfl (B := w.heap.size) Tryz.underlying22 hi0 hz0 hz1 hz2 rfl (HO.out.below (alloc_below _ _)) rfl rfl (rd_one _ _ (UInt8.ofNat (u % 128 + 128)) HQ.out) HM.out (HBZ.out _) ?_
                   intro v5 w5 ho5 hg5
                   have HY : Hid (∀ v3, v3 = .int .u64 ((u / 128 : Nat) : Int) → SHL w n v3 v5 w5) := Lib.hid (fun v3 h3 => ⟨u / 128, acc ++ [UInt8.ofNat (u % 128 + 128)], v5, rfl, h3, by have := HU.out; omega, by rw [HE.out, HV.out, List.append_assoc]; rfl, ho5, HB.out.trans (((alloc_below wr _).mono HB.out.size).trans (hg5.toBelow (HBZ.out _) HO.out.ge))⟩)
                   clear ho5 hg5)
      go_roundw
      case rel => first | exact HY.out _ (by rw [HD.out]) | ((repeat apply Exists.intro); exact ⟨HY.out _ (by rw [HD.out]), rfl⟩)
      case measure => simp [intOf]; omega
end
end Go.Proofs.YtkohppalfcalbaaGreat
