/- The document's take of a key's value, by kind. -/
import Derived.Test.YtjnjolhokcmmhaaTBX
import Derived.Test.YtjnjolhokcmmhaaKDE
import Derived.Test.YtjnjolhokcmmhaaKPC
namespace Go.Proofs.Ytjnjolhokcmmhaa
open Go.RowKit

/-- what the document's take answers: some value in its kinds, and how many bytes it has; the right one where the bytes begin with one's -/
def TkK (w : World) (b : List UInt8) (e : Ending) (w' : World) : Prop := Below w.heap.size w w' ∧ ∃ (x : Val) (n : Nat), e = .returned (.tuple #[x.v, .int .i64 n]) ∧ x.ok ∧ x.s.size ≤ b.length ∧ n ≤ b.length ∧ ∀ y r, y.R → b = enc1 y ++ r → x = y ∧ n = (enc1 y).length
theorem i64_lit0 : i64ok 0 := by unfold i64ok; decide
theorem i64_lit1 : i64ok 1 := by unfold i64ok; decide
theorem i64_byte (c : UInt8) : i64ok (c.toNat : Int) := by have := c.toNat_lt; unfold i64ok; omega
/-- where the bytes begin with a right value's -/
theorem tkK_good {w W : World} {b u : List UInt8} {x : Val} {n : Nat} (hb : Below w.heap.size w W) (hx : x.R) (he : b = enc1 x ++ u) (hn : n = (enc1 x).length) (hs : x.s.size ≤ b.length) : TkK w b (.returned (.tuple #[x.v, .int .i64 n])) W :=
  ⟨hb, x, n, rfl, hx.2, hs, by rw [he, hn, List.length_append]; omega, fun y r hy e => by
    obtain ⟨h1, _⟩ := enc_inj hx hy (he.symm.trans e)
    exact ⟨h1, by rw [hn, h1]⟩⟩
/-- where they begin with none's -/
theorem tkK_bad {w W : World} {b : List UInt8} {x : Val} {n : Nat} (hb : Below w.heap.size w W) (hx : x.ok) (hs : x.s.size ≤ b.length) (hn : n ≤ b.length) (hno : ∀ y r, Val.R y → b ≠ enc1 y ++ r) : TkK w b (.returned (.tuple #[x.v, .int .i64 n])) W :=
  ⟨hb, x, n, rfl, hx, hs, hn, fun y r hy e => absurd e (hno y r hy)⟩
theorem xor_back {u : Nat} (h : u < 18446744073709551616) : wrap64 (bits .xor .u64 (u : Int) 9223372036854775808) = (u : Int) - 9223372036854775808 := by
  have h1 : (BitVec.ofInt 64 (u : Int)).toNat = u := by rw [BitVec.toNat_ofInt]; simp; omega
  have h2 : (BitVec.ofInt 64 9223372036854775808).toNat = 2 ^ 63 := by decide
  show wrap64 (IntKind.u64.wrap (((BitVec.ofInt 64 (u : Int)) ^^^ (BitVec.ofInt 64 9223372036854775808)).toNat : Int)) = _
  rw [BitVec.toNat_xor, h1, h2, IntKind.wrap_u64]
  rcases Nat.lt_or_ge u (2 ^ 63) with h3 | h3
  · rw [xor63 h3]
    unfold wrap64
    omega
  · rw [xor63' (by omega) h3]
    unfold wrap64
    omega
set_option maxRecDepth 100000 in
set_option maxHeartbeats 8000000 in
theorem tkK_0 (t : List UInt8) (ad : Addr) (cap : Nat) (w : World) (x0 : w.cell? ad = some (.int .u8 (0 : UInt8).toNat)) (hab : ad.block < w.heap.size) : Calls Try.prog 39 #[.slice (some ad) (t.length + 1) cap] w (TkK w (0 :: t)) := by
  have hti : (0 : Int) < (t.length : Int) + 1 := by omega
  have HY : Hid (∀ W, Below w.heap.size w W → TkK w (0 :: t) (.returned (.tuple #[.agg #[.int .i64 0, .int .i64 0, .string ⟨#[]⟩], .int .i64 1])) W) := Lib.hid fun W hW => tkK_good (x := ⟨0, 0, ⟨#[]⟩⟩) (n := 1) (u := t) hW R_0 (by rw [enc1_0]; rfl) (by rw [enc1_0]; rfl) (Nat.zero_le _)
  have HT := Lib.hid (TB.new w 0 0 ⟨#[]⟩ 0 0 ⟨#[]⟩)
  obtain ⟨f0, f1, f2⟩ := HT.out.frozA
  obtain ⟨g0, g1, g2⟩ := HT.out.frozB
  obtain ⟨y0, y1, y2⟩ := HT.out.cells
  obtain ⟨r0, r1, r2⟩ := HT.out.res
  go_enter Try.func39, Try.ntmps39
  go_wp2_with fail
  all_goals first
    | (refine bodyPost_ret (v := .tuple #[.agg #[.int .i64 0, .int .i64 0, .string ⟨#[]⟩], .int .i64 1]) (by simp [results, Try.results39, go_sem]) rfl ?_
       exact HY.out _ (alloc2_below _ _ _))
    | fail
set_option maxRecDepth 100000 in
set_option maxHeartbeats 8000000 in
theorem tkK_x (c : UInt8) (t : List UInt8) (ad : Addr) (cap : Nat) (w : World) (x0 : w.cell? ad = some (.int .u8 (c : UInt8).toNat)) (hab : ad.block < w.heap.size) (hc5 : 5 < c.toNat) : Calls Try.prog 39 #[.slice (some ad) (t.length + 1) cap] w (TkK w (c :: t)) := by
  have hti : (0 : Int) < (t.length : Int) + 1 := by omega
  obtain ⟨x, HXC⟩ : ∃ x : Int, Hid (x = (c.toNat : Int)) := ⟨_, Lib.hid rfl⟩
  rw [← HXC.out] at x0
  have hx5 : 5 < x := by rw [HXC.out]; omega
  have hx9 : x < 256 := by have := c.toNat_lt; rw [HXC.out]; omega
  have hw : wrap64 x = x := by unfold wrap64; omega
  have e0 : (x == 0) = false := beq_false_of_ne (by omega)
  have e1 : (x == 1) = false := beq_false_of_ne (by omega)
  have e2 : (x == 2) = false := beq_false_of_ne (by omega)
  have e3 : (x == 3) = false := beq_false_of_ne (by omega)
  have e4 : (x == 4) = false := beq_false_of_ne (by omega)
  have e5 : (x == 5) = false := beq_false_of_ne (by omega)
  have HXO : Hid (i64ok x) := Lib.hid (by unfold i64ok; omega)
  clear hx5 hx9
  have HY : Hid (∀ W, Below w.heap.size w W → TkK w (c :: t) (.returned (.tuple #[.agg #[.int .i64 x, .int .i64 0, .string ⟨#[]⟩], .int .i64 0])) W) := Lib.hid fun W hW => tkK_bad (x := ⟨x, 0, ⟨#[]⟩⟩) (n := 0) hW ⟨HXO.out, i64_lit0⟩ (Nat.zero_le _) (Nat.zero_le _) (no_kind hc5)
  have HT := Lib.hid (TB.new w 0 0 ⟨#[]⟩ x 0 ⟨#[]⟩)
  obtain ⟨f0, f1, f2⟩ := HT.out.frozA
  obtain ⟨g0, g1, g2⟩ := HT.out.frozB
  obtain ⟨y0, y1, y2⟩ := HT.out.cells
  obtain ⟨r0, r1, r2⟩ := HT.out.res
  go_enter Try.func39, Try.ntmps39
  go_wp2_with fail
  all_goals first
    | (refine bodyPost_ret (v := .tuple #[.agg #[.int .i64 x, .int .i64 0, .string ⟨#[]⟩], .int .i64 0]) (by simp [results, Try.results39, go_sem]) rfl ?_
       exact HY.out _ (alloc2_below _ _ _))
    | fail
set_option maxRecDepth 100000 in
set_option maxHeartbeats 8000000 in
theorem tkK_1n (ad : Addr) (cap : Nat) (w : World) (x0 : w.cell? ad = some (.int .u8 (1 : UInt8).toNat)) (hab : ad.block < w.heap.size) : Calls Try.prog 39 #[.slice (some ad) 1 cap] w (TkK w ([1])) := by
  have HY : Hid (∀ W, Below w.heap.size w W → TkK w ([1]) (.returned (.tuple #[.agg #[.int .i64 1, .int .i64 0, .string ⟨#[]⟩], .int .i64 0])) W) := Lib.hid fun W hW => tkK_bad (x := ⟨1, 0, ⟨#[]⟩⟩) (n := 0) hW ⟨by unfold i64ok; decide, i64_lit0⟩ (Nat.zero_le _) (Nat.zero_le _) no_short1
  have HT := Lib.hid (TB.new w 0 0 ⟨#[]⟩ 1 0 ⟨#[]⟩)
  obtain ⟨f0, f1, f2⟩ := HT.out.frozA
  obtain ⟨g0, g1, g2⟩ := HT.out.frozB
  obtain ⟨y0, y1, y2⟩ := HT.out.cells
  obtain ⟨r0, r1, r2⟩ := HT.out.res
  go_enter Try.func39, Try.ntmps39
  go_wp2_with fail
  all_goals first
    | (refine bodyPost_ret (v := .tuple #[.agg #[.int .i64 1, .int .i64 0, .string ⟨#[]⟩], .int .i64 0]) (by simp [results, Try.results39, go_sem]) rfl ?_
       exact HY.out _ (alloc2_below _ _ _))
    | fail
set_option maxRecDepth 100000 in
set_option maxHeartbeats 8000000 in
theorem tkK_1c (d : UInt8) (t : List UInt8) (ad : Addr) (cap : Nat) (w : World) (x0 : w.cell? ad = some (.int .u8 (1 : UInt8).toNat)) (hab : ad.block < w.heap.size) (x1 : w.cell? (ad.add 1) = some (.int .u8 (d.toNat : Int))) : Calls Try.prog 39 #[.slice (some ad) (t.length + 1 + 1) cap] w (TkK w (1 :: d :: t)) := by
  obtain ⟨ab, ao, asp⟩ := ad
  have hsp : asp = none := World.cell?_spot x0
  subst hsp
  rw [Addr.add_lit] at x1
  have hab' : ab < w.heap.size := hab
  have hti : (0 : Int) < (t.length : Int) + 1 + 1 := by omega
  have hti2 : (1 : Int) < (t.length : Int) + 1 + 1 := by omega
  have hti3 : ¬ (t.length : Int) + 1 + 1 < 2 := by omega
  obtain ⟨x, HXC⟩ : ∃ x : Int, Hid (x = (d.toNat : Int)) := ⟨_, Lib.hid rfl⟩
  rw [← HXC.out] at x1
  have hN : wrap64 x = x := by have := d.toNat_lt; rw [HXC.out]; unfold wrap64; omega
  have HY : Hid (∀ W, Below w.heap.size w W → TkK w (1 :: d :: t) (.returned (.tuple #[.agg #[.int .i64 1, .int .i64 x, .string ⟨#[]⟩], .int .i64 2])) W) := Lib.hid fun W hW => by
    by_cases hd : d.toNat ≤ 1
    · obtain ⟨h1, h2⟩ := yes_bool hd t
      rw [HXC.out]
      exact tkK_good (x := ⟨1, d.toNat, ⟨#[]⟩⟩) (n := 2) hW h1 h2 (by simp [enc1, bodyL, be]) (Nat.zero_le _)
    · exact tkK_bad (x := ⟨1, x, ⟨#[]⟩⟩) (n := 2) hW ⟨i64_lit1, by rw [HXC.out]; exact i64_byte d⟩ (Nat.zero_le _) (by simp) (no_bool (by omega))
  have HT := Lib.hid (TB.new w 0 0 ⟨#[]⟩ 1 0 ⟨#[]⟩)
  obtain ⟨f0, f1, f2⟩ := HT.out.frozA
  obtain ⟨g0, g1, g2⟩ := HT.out.frozB
  obtain ⟨y0, y1, y2⟩ := HT.out.cells
  obtain ⟨r0, r1, r2⟩ := HT.out.res
  go_enter Try.func39, Try.ntmps39
  go_wp2_with fail
  all_goals first
    | (refine bodyPost_ret (v := .tuple #[.agg #[.int .i64 1, .int .i64 x, .string ⟨#[]⟩], .int .i64 2]) (by simp [results, Try.results39, go_sem]) rfl ?_
       exact HY.out _ (alloc2_below _ _ _))
    | fail
set_option maxRecDepth 100000 in
set_option maxHeartbeats 8000000 in
theorem tkK_2n (t : List UInt8) (ad : Addr) (cap : Nat) (w : World) (x0 : w.cell? ad = some (.int .u8 (2 : UInt8).toNat)) (hab : ad.block < w.heap.size) (h8 : t.length < 8) : Calls Try.prog 39 #[.slice (some ad) (t.length + 1) cap] w (TkK w (2 :: t)) := by
  have hti : (0 : Int) < (t.length : Int) + 1 := by omega
  have ht9 : (t.length : Int) + 1 < 9 := by omega
  have HY : Hid (∀ W, Below w.heap.size w W → TkK w (2 :: t) (.returned (.tuple #[.agg #[.int .i64 2, .int .i64 0, .string ⟨#[]⟩], .int .i64 0])) W) := Lib.hid fun W hW => tkK_bad (x := ⟨2, 0, ⟨#[]⟩⟩) (n := 0) hW ⟨by unfold i64ok; decide, i64_lit0⟩ (Nat.zero_le _) (Nat.zero_le _) (no_short8 (c := 2) (by decide) h8)
  have HT := Lib.hid (TB.new w 0 0 ⟨#[]⟩ 2 0 ⟨#[]⟩)
  obtain ⟨f0, f1, f2⟩ := HT.out.frozA
  obtain ⟨g0, g1, g2⟩ := HT.out.frozB
  obtain ⟨y0, y1, y2⟩ := HT.out.cells
  obtain ⟨r0, r1, r2⟩ := HT.out.res
  go_enter Try.func39, Try.ntmps39
  go_wp2_with fail
  all_goals first
    | (refine bodyPost_ret (v := .tuple #[.agg #[.int .i64 2, .int .i64 0, .string ⟨#[]⟩], .int .i64 0]) (by simp [results, Try.results39, go_sem]) rfl ?_
       exact HY.out _ (alloc2_below _ _ _))
    | fail
/-- at the head of the number's loop -/
def KNL (t : List UInt8) (vu vi : Value) : Prop := ∃ k : Nat, k ≤ 8 ∧ vi = .int .i64 ((k : Int) + 1) ∧ vu = .int .u64 ((beVal (t.take k) : Nat) : Int)
set_option maxRecDepth 100000 in
set_option maxHeartbeats 8000000 in
theorem tkK_2y (t : List UInt8) (ad : Addr) (cap : Nat) (w : World) (x0 : w.cell? ad = some (.int .u8 (2 : UInt8).toNat)) (hab : ad.block < w.heap.size) (h8 : 8 ≤ t.length) (hcells : ∀ j d, t[j]? = some d → w.cell? (ad.add (1 + j)) = some (.int .u8 (d.toNat : Int))) : Calls Try.prog 39 #[.slice (some ad) (t.length + 1) cap] w (TkK w (2 :: t)) := by
  obtain ⟨ab, ao, asp⟩ := ad
  have hsp : asp = none := World.cell?_spot x0
  subst hsp
  have hab' : ab < w.heap.size := hab
  have hti : (0 : Int) < (t.length : Int) + 1 := by omega
  have ht9 : ¬ (t.length : Int) + 1 < 9 := by omega
  have HC := Lib.hid hcells
  have HV : Hid (beVal (t.take 8) < 18446744073709551616) := Lib.hid (by
    have hv := beVal_lt (t.take 8)
    rwa [show (t.take 8).length = 8 by rw [List.length_take]; omega, pow8] at hv)
  obtain ⟨N, HN⟩ : ∃ N : Int, Hid (N = (beVal (t.take 8) : Int) - 9223372036854775808) := ⟨_, Lib.hid rfl⟩
  have HYN := Lib.hid (yes_num (c := 2) (t := t) (by decide) h8)
  have HRN : Hid (Val.R ⟨2, N, ⟨#[]⟩⟩ ∧ 2 :: t = enc1 ⟨2, N, ⟨#[]⟩⟩ ++ t.drop 8) := Lib.hid (by rw [HN.out]; exact HYN.out)
  have HY : Hid (∀ W, Below w.heap.size w W → TkK w (2 :: t) (.returned (.tuple #[.agg #[.int .i64 2, .int .i64 N, .string ⟨#[]⟩], .int .i64 9])) W) := Lib.hid fun W hW => tkK_good (x := ⟨2, N, ⟨#[]⟩⟩) (n := 9) hW HRN.out.1 HRN.out.2 (by simp [enc1, bodyL, be]) (Nat.zero_le _)
  have hN : wrap64 (bits .xor .u64 ((beVal (t.take 8) : Nat) : Int) 9223372036854775808) = N := by rw [HN.out]; exact xor_back HV.out
  have HS : Hid (KNL t (.int .u64 0) (.int .i64 1)) := Lib.hid ⟨0, Nat.zero_le _, rfl, rfl⟩
  have H8 := Lib.hid h8
  clear hcells h8
  have HT := Lib.hid (TB.new w 0 0 ⟨#[]⟩ 2 0 ⟨#[]⟩)
  obtain ⟨f0, f1, f2⟩ := HT.out.frozA
  obtain ⟨g0, g1, g2⟩ := HT.out.frozB
  obtain ⟨y0, y1, y2⟩ := HT.out.cells
  obtain ⟨r0, r1, r2⟩ := HT.out.res
  go_enter Try.func39, Try.ntmps39
  go_wp2_with fail
  go_loop [6, 7] (fun vu vi => KNL t vu vi) (fun _ vi => 9 - (intOf vi).toNat)
  case atStart => exact HS.out
  case round =>
    obtain ⟨k, hk, rfl, rfl⟩ := hrel
    by_cases hk8 : k < 8
    · have hki : (k : Int) + 1 < 9 := by omega
      have hkt : (k : Int) + 1 < (t.length : Int) + 1 := by have := H8.out; omega
      have hk0 : (0 : Int) ≤ (k : Int) + 1 := by omega
      obtain ⟨c, hc⟩ : ∃ c, t[k]? = some c := ⟨_, List.getElem?_eq_getElem (by have := H8.out; omega)⟩
      have hcell := HC.out k c hc
      rw [Addr.add_lit, Nat.add_comm 1 k] at hcell
      have HST : Hid (∀ v : Int, v = IntKind.u64.wrap (IntKind.u64.wrap (256 * ((beVal (t.take k) : Nat) : Int)) + IntKind.u64.wrap (c.toNat : Int)) ∨ v = IntKind.u64.wrap (IntKind.u64.wrap (256 * ((beVal (t.take k) : Nat) : Int)) + (c.toNat : Int)) ∨ v = IntKind.u64.wrap (256 * ((beVal (t.take k) : Nat) : Int) + (c.toNat : Int)) → v = ((beVal (t.take (k + 1)) : Nat) : Int)) := Lib.hid fun v hv => by
        have h1 := beVal_lt (t.take k)
        have h2 : (t.take k).length ≤ 7 := by rw [List.length_take]; omega
        have h3 : 256 ^ (t.take k).length ≤ 256 ^ 7 := Nat.pow_le_pow_right (by omega) h2
        have h4 : (256 : Nat) ^ 7 = 72057594037927936 := by decide
        have h5 := c.toNat_lt
        rw [List.take_add_one, hc, Option.toList_some, beVal_snoc]
        rcases hv with rfl | rfl | rfl <;> simp only [IntKind.wrap_u64] <;> omega
      clear hc hk hk8 hN
      go_wp2_with fail
      go_round
      case rel => exact ⟨k + 1, by omega, by go_num, congrArg (Value.int .u64) (HST.out _ (by first | exact .inl rfl | exact .inr (.inl rfl) | exact .inr (.inr rfl)))⟩
      case measure => simp [intOf]; omega
    · have hke : k = 8 := by omega
      subst hke
      clear hk hk8
      go_wp2_with fail
      all_goals first
        | (refine bodyPost_ret (v := .tuple #[.agg #[.int .i64 2, .int .i64 N, .string ⟨#[]⟩], .int .i64 9]) (by simp [results, Try.results39, go_sem]) rfl ?_
           exact HY.out _ (alloc2_below _ _ _))
        | fail
set_option maxRecDepth 100000 in
set_option maxHeartbeats 8000000 in
theorem tkK_3n (t : List UInt8) (ad : Addr) (cap : Nat) (w : World) (x0 : w.cell? ad = some (.int .u8 (3 : UInt8).toNat)) (hab : ad.block < w.heap.size) (h8 : t.length < 8) : Calls Try.prog 39 #[.slice (some ad) (t.length + 1) cap] w (TkK w (3 :: t)) := by
  have hti : (0 : Int) < (t.length : Int) + 1 := by omega
  have ht9 : (t.length : Int) + 1 < 9 := by omega
  have HY : Hid (∀ W, Below w.heap.size w W → TkK w (3 :: t) (.returned (.tuple #[.agg #[.int .i64 3, .int .i64 0, .string ⟨#[]⟩], .int .i64 0])) W) := Lib.hid fun W hW => tkK_bad (x := ⟨3, 0, ⟨#[]⟩⟩) (n := 0) hW ⟨by unfold i64ok; decide, i64_lit0⟩ (Nat.zero_le _) (Nat.zero_le _) (no_short8 (c := 3) (by decide) h8)
  have HT := Lib.hid (TB.new w 0 0 ⟨#[]⟩ 3 0 ⟨#[]⟩)
  obtain ⟨f0, f1, f2⟩ := HT.out.frozA
  obtain ⟨g0, g1, g2⟩ := HT.out.frozB
  obtain ⟨y0, y1, y2⟩ := HT.out.cells
  obtain ⟨r0, r1, r2⟩ := HT.out.res
  go_enter Try.func39, Try.ntmps39
  go_wp2_with fail
  all_goals first
    | (refine bodyPost_ret (v := .tuple #[.agg #[.int .i64 3, .int .i64 0, .string ⟨#[]⟩], .int .i64 0]) (by simp [results, Try.results39, go_sem]) rfl ?_
       exact HY.out _ (alloc2_below _ _ _))
    | fail
set_option maxRecDepth 100000 in
set_option maxHeartbeats 8000000 in
theorem tkK_3y (t : List UInt8) (ad : Addr) (cap : Nat) (w : World) (x0 : w.cell? ad = some (.int .u8 (3 : UInt8).toNat)) (hab : ad.block < w.heap.size) (h8 : 8 ≤ t.length) (hcells : ∀ j d, t[j]? = some d → w.cell? (ad.add (1 + j)) = some (.int .u8 (d.toNat : Int))) : Calls Try.prog 39 #[.slice (some ad) (t.length + 1) cap] w (TkK w (3 :: t)) := by
  obtain ⟨ab, ao, asp⟩ := ad
  have hsp : asp = none := World.cell?_spot x0
  subst hsp
  have hab' : ab < w.heap.size := hab
  have hti : (0 : Int) < (t.length : Int) + 1 := by omega
  have ht9 : ¬ (t.length : Int) + 1 < 9 := by omega
  have HC := Lib.hid hcells
  have HV : Hid (beVal (t.take 8) < 18446744073709551616) := Lib.hid (by
    have hv := beVal_lt (t.take 8)
    rwa [show (t.take 8).length = 8 by rw [List.length_take]; omega, pow8] at hv)
  obtain ⟨N, HN⟩ : ∃ N : Int, Hid (N = (beVal (t.take 8) : Int) - 9223372036854775808) := ⟨_, Lib.hid rfl⟩
  have HYN := Lib.hid (yes_num (c := 3) (t := t) (by decide) h8)
  have HRN : Hid (Val.R ⟨3, N, ⟨#[]⟩⟩ ∧ 3 :: t = enc1 ⟨3, N, ⟨#[]⟩⟩ ++ t.drop 8) := Lib.hid (by rw [HN.out]; exact HYN.out)
  have HY : Hid (∀ W, Below w.heap.size w W → TkK w (3 :: t) (.returned (.tuple #[.agg #[.int .i64 3, .int .i64 N, .string ⟨#[]⟩], .int .i64 9])) W) := Lib.hid fun W hW => tkK_good (x := ⟨3, N, ⟨#[]⟩⟩) (n := 9) hW HRN.out.1 HRN.out.2 (by simp [enc1, bodyL, be]) (Nat.zero_le _)
  have hN : wrap64 (bits .xor .u64 ((beVal (t.take 8) : Nat) : Int) 9223372036854775808) = N := by rw [HN.out]; exact xor_back HV.out
  have HS : Hid (KNL t (.int .u64 0) (.int .i64 1)) := Lib.hid ⟨0, Nat.zero_le _, rfl, rfl⟩
  have H8 := Lib.hid h8
  clear hcells h8
  have HT := Lib.hid (TB.new w 0 0 ⟨#[]⟩ 3 0 ⟨#[]⟩)
  obtain ⟨f0, f1, f2⟩ := HT.out.frozA
  obtain ⟨g0, g1, g2⟩ := HT.out.frozB
  obtain ⟨y0, y1, y2⟩ := HT.out.cells
  obtain ⟨r0, r1, r2⟩ := HT.out.res
  go_enter Try.func39, Try.ntmps39
  go_wp2_with fail
  go_loop [6, 7] (fun vu vi => KNL t vu vi) (fun _ vi => 9 - (intOf vi).toNat)
  case atStart => exact HS.out
  case round =>
    obtain ⟨k, hk, rfl, rfl⟩ := hrel
    by_cases hk8 : k < 8
    · have hki : (k : Int) + 1 < 9 := by omega
      have hkt : (k : Int) + 1 < (t.length : Int) + 1 := by have := H8.out; omega
      have hk0 : (0 : Int) ≤ (k : Int) + 1 := by omega
      obtain ⟨c, hc⟩ : ∃ c, t[k]? = some c := ⟨_, List.getElem?_eq_getElem (by have := H8.out; omega)⟩
      have hcell := HC.out k c hc
      rw [Addr.add_lit, Nat.add_comm 1 k] at hcell
      have HST : Hid (∀ v : Int, v = IntKind.u64.wrap (IntKind.u64.wrap (256 * ((beVal (t.take k) : Nat) : Int)) + IntKind.u64.wrap (c.toNat : Int)) ∨ v = IntKind.u64.wrap (IntKind.u64.wrap (256 * ((beVal (t.take k) : Nat) : Int)) + (c.toNat : Int)) ∨ v = IntKind.u64.wrap (256 * ((beVal (t.take k) : Nat) : Int) + (c.toNat : Int)) → v = ((beVal (t.take (k + 1)) : Nat) : Int)) := Lib.hid fun v hv => by
        have h1 := beVal_lt (t.take k)
        have h2 : (t.take k).length ≤ 7 := by rw [List.length_take]; omega
        have h3 : 256 ^ (t.take k).length ≤ 256 ^ 7 := Nat.pow_le_pow_right (by omega) h2
        have h4 : (256 : Nat) ^ 7 = 72057594037927936 := by decide
        have h5 := c.toNat_lt
        rw [List.take_add_one, hc, Option.toList_some, beVal_snoc]
        rcases hv with rfl | rfl | rfl <;> simp only [IntKind.wrap_u64] <;> omega
      clear hc hk hk8 hN
      go_wp2_with fail
      go_round
      case rel => exact ⟨k + 1, by omega, by go_num, congrArg (Value.int .u64) (HST.out _ (by first | exact .inl rfl | exact .inr (.inl rfl) | exact .inr (.inr rfl)))⟩
      case measure => simp [intOf]; omega
    · have hke : k = 8 := by omega
      subst hke
      clear hk hk8
      go_wp2_with fail
      all_goals first
        | (refine bodyPost_ret (v := .tuple #[.agg #[.int .i64 3, .int .i64 N, .string ⟨#[]⟩], .int .i64 9]) (by simp [results, Try.results39, go_sem]) rfl ?_
           exact HY.out _ (alloc2_below _ _ _))
        | fail
end Go.Proofs.Ytjnjolhokcmmhaa
