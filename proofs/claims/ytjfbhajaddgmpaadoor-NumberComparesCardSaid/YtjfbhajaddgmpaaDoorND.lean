/- Package number: sum, ratio, promote. -/
import Derived.Test.YtjfbhajaddgmpaaDoorNC
import Derived.Lib.Zigzag
namespace Go.Proofs.YtjfbhajaddgmpaaDoor
open Go.RowKit

/-- a product by a factor, divided, cut off towards zero, where it fits -/
def fitI (n : Int) : Option Int := if -9223372036854775808 ≤ n ∧ n ≤ 9223372036854775807 then some n else none
def ratioI (a b c : Int) : Option Int := if c = 0 then none else fitI ((a * b).tdiv c)
/-- what the number's calls answer: a number and true, or a number and false -/
def Fits (o : Option Int) (w : World) : Ending → World → Prop := fun e w' => Below w.heap.size w w' ∧ match o with
  | some n => e = .returned (.tuple #[.int .i64 n, .bool true])
  | none => ∃ n : Int, e = .returned (.tuple #[.int .i64 n, .bool false])
theorem div64_any (hi lo y : Nat) (h1 : lo < 18446744073709551616) (h2 : hi < y) (h3 : y < 18446744073709551616) (w : World) : Calls Tryd.prog 56 #[.int .u64 hi, .int .u64 lo, .int .u64 y] w
    fun e w' => Below w.heap.size w w' ∧ ∃ r : Int, e = .returned (.tuple #[.int .u64 (((hi * 18446744073709551616 + lo) / y : Nat) : Int), .int .u64 r]) := by
  by_cases h0 : hi = 0
  · subst h0
    refine (div64_zero lo y h2 h1 w).mono fun e w' ⟨he, hb⟩ => ⟨hb, ((lo % y : Nat) : Int), ?_⟩
    rw [he, Nat.zero_mul, Nat.zero_add]
  · exact div64_more hi lo y (by omega) h1 h2 h3 w
/-- the sign of an exclusive or -/
theorem xor_val (a b : Int) : ∃ c : BitVec 64, bits .xor .i64 a b = c.toInt ∧ c = BitVec.ofInt 64 a ^^^ BitVec.ofInt 64 b := by
  refine ⟨_, ?_, rfl⟩
  show IntKind.i64.wrap ((BitVec.ofInt 64 a ^^^ BitVec.ofInt 64 b).toNat : Int) = _
  generalize BitVec.ofInt 64 a ^^^ BitVec.ofInt 64 b = c
  rw [IntKind.wrap_i64, BitVec.toInt_eq_toNat_cond]
  have := c.isLt
  split <;> omega
theorem msb_neg {a : Int} (h : i64ok a) : (BitVec.ofInt 64 a).msb = decide (a < 0) := by
  rw [BitVec.msb_eq_toInt, BitVec.toInt_ofInt]
  obtain ⟨h1, h2⟩ := h
  congr 1
  rw [Int.bmod_eq_of_le] <;> omega
theorem xor_neg {a b : Int} (ha : i64ok a) (hb : i64ok b) : bits .xor .i64 a b < 0 ↔ ¬ (a < 0 ↔ b < 0) := by
  obtain ⟨c, h, e⟩ := xor_val a b
  rw [h]
  have hm : c.msb = (decide (a < 0) ^^ decide (b < 0)) := by rw [e, BitVec.msb_xor, msb_neg ha, msb_neg hb]
  rw [BitVec.msb_eq_toInt] at hm
  by_cases h1 : a < 0 <;> by_cases h2 : b < 0 <;> simp [h1, h2] at hm ⊢ <;> omega
theorem xor_ok (a b : Int) : i64ok (bits .xor .i64 a b) := by
  obtain ⟨c, h, _⟩ := xor_val a b
  rw [h]
  exact ⟨by have := c.le_toInt; simpa using this, by have := c.toInt_lt; simp at this; omega⟩
/-- the sign of 'and' -/
theorem and_val (a b : Int) : ∃ c : BitVec 64, bits .and .i64 a b = c.toInt ∧ c = BitVec.ofInt 64 a &&& BitVec.ofInt 64 b := by
  refine ⟨_, ?_, rfl⟩
  show IntKind.i64.wrap ((BitVec.ofInt 64 a &&& BitVec.ofInt 64 b).toNat : Int) = _
  generalize BitVec.ofInt 64 a &&& BitVec.ofInt 64 b = c
  rw [IntKind.wrap_i64, BitVec.toInt_eq_toNat_cond]
  have := c.isLt
  split <;> omega
theorem and_neg {a b : Int} (ha : i64ok a) (hb : i64ok b) : bits .and .i64 a b < 0 ↔ a < 0 ∧ b < 0 := by
  obtain ⟨c, h, e⟩ := and_val a b
  rw [h]
  have hm : c.msb = (decide (a < 0) && decide (b < 0)) := by rw [e, BitVec.msb_and, msb_neg ha, msb_neg hb]
  rw [BitVec.msb_eq_toInt] at hm
  by_cases h1 : a < 0 <;> by_cases h2 : b < 0 <;> simp [h1, h2] at hm ⊢ <;> omega
theorem toInt_ok {b : Int} (hb : i64ok b) : (BitVec.ofInt 64 b).toInt = b := by
  rw [BitVec.toInt_ofInt]
  obtain ⟨h1, h2⟩ := hb
  rw [Int.bmod_eq_of_le] <;> omega
theorem not_val {b : Int} (hb : i64ok b) : bits .xor .i64 (-1) b = -b - 1 := by
  obtain ⟨c, h, e⟩ := xor_val (-1) b
  have ht := toInt_ok hb
  have h1 : (BitVec.ofInt 64 (-1)).toNat = 2 ^ 64 - 1 := by decide
  have hc : c.toNat = 2 ^ 64 - 1 - (BitVec.ofInt 64 b).toNat := by rw [e, BitVec.toNat_xor, h1]; exact Lib.xor_ones64 _ (BitVec.isLt _)
  have hl := (BitVec.ofInt 64 b).isLt
  rw [h, BitVec.toInt_eq_toNat_cond, hc]
  rw [BitVec.toInt_eq_toNat_cond] at ht
  generalize (BitVec.ofInt 64 b).toNat = x at *
  split at ht <;> split <;> omega
/-- wrap-round at a sum of two: it fits just if the sum's sign is one of the two's -/
theorem ret_nb {a b : Int} {p q : Bool} (h1 : a = b) (h2 : p = q) : Ending.returned (.tuple #[.int .i64 a, .bool p]) = .returned (.tuple #[.int .i64 b, .bool q]) := by rw [h1, h2]
theorem wrap3 (n : Int) : i64ok (IntKind.i64.wrap n) := by rw [IntKind.wrap_i64]; unfold i64ok; omega
set_option maxRecDepth 100000 in
set_option maxHeartbeats 1000000 in
/-- sum: of two numbers and a carry of 0 or 1 -/
theorem sum_any (a b c : Int) (ha : i64ok a) (hb : i64ok b) (hc : c = 0 ∨ c = 1) (w : World) : Calls Tryd.prog 48 #[.int .i64 a, .int .i64 b, .int .i64 c] w (Fits (fitI (a + b + c)) w) := by
  obtain ⟨n, hn⟩ : ∃ n, Hid (n = IntKind.i64.wrap (a + b + c)) := ⟨_, Lib.hid rfl⟩
  have e1 : wrap64 (wrap64 (a + b) + c) = n := by unfold wrap64; rw [hn.out, IntKind.wrap_i64]; omega
  have hnok : i64ok n := by rw [hn.out]; exact wrap3 _
  obtain ⟨t, ht⟩ : ∃ t, Hid (t = bits .and .i64 (bits .xor .i64 a n) (bits .xor .i64 b n)) := ⟨_, Lib.hid rfl⟩
  have e2 : bits .and .i64 (bits .xor .i64 a n) (bits .xor .i64 b n) = t := ht.out.symm
  have hneg : t < 0 ↔ ¬ (a < 0 ↔ n < 0) ∧ ¬ (b < 0 ↔ n < 0) := by rw [ht.out, and_neg (xor_ok _ _) (xor_ok _ _), xor_neg ha hnok, xor_neg hb hnok]
  have hw : n = (a + b + c + 9223372036854775808) % 18446744073709551616 - 9223372036854775808 := by rw [hn.out, IntKind.wrap_i64]
  obtain ⟨a1, a2⟩ := ha
  obtain ⟨b1, b2⟩ := hb
  by_cases h : t < 0
  · have HF : Hid (fitI (a + b + c) = none) := Lib.hid (by unfold fitI; rw [if_neg (by have := hneg.1 h; omega)])
    rw [HF.out]
    clear hw hneg a1 a2 b1 b2 hnok hc
    go_enter Tryd.func48, Tryd.ntmps48
    go_wp2_with fail
    go_ret2
    exact ⟨Below.refl _ _, n, ret_nb (by first | exact e1 | rfl) (by first | rfl | exact decide_eq_false (by omega))⟩
  · have HF : Hid (fitI (a + b + c) = some n) := Lib.hid (by unfold fitI; rw [if_pos (by have h2 := fun x => h (hneg.2 x); omega)]; congr 1; have h2 := fun x => h (hneg.2 x); omega)
    rw [HF.out]
    clear hw hneg a1 a2 b1 b2 hnok hc
    go_enter Tryd.func48, Tryd.ntmps48
    go_wp2_with fail
    go_ret2
    exact ⟨Below.refl _ _, ret_nb (by first | exact e1 | rfl) (by first | rfl | exact decide_eq_true (by omega))⟩
/-- the quotient's size and sign -/
theorem tdiv_size (a b c : Int) : ((a * b).tdiv c).natAbs = a.natAbs * b.natAbs / c.natAbs := by rw [Int.natAbs_tdiv, Int.natAbs_mul]; rfl
theorem tdiv_neg' {a b c : Int} (h : ¬ (¬ (a < 0 ↔ b < 0) ↔ c < 0)) : (a * b).tdiv c = -((a.natAbs * b.natAbs / c.natAbs : Nat) : Int) := by
  rw [← tdiv_size]
  have : (a * b).tdiv c ≤ 0 := by
    by_cases hc : c < 0
    · have hab : 0 ≤ a * b := by
        by_cases ha : a < 0
        · exact Int.mul_nonneg_of_nonpos_of_nonpos (by omega) (by omega)
        · exact Int.mul_nonneg (by omega) (by omega)
      exact Int.tdiv_nonpos_of_nonneg_of_nonpos hab (by omega)
    · have hab : a * b ≤ 0 := by
        by_cases ha : a < 0
        · exact Int.mul_nonpos_of_nonpos_of_nonneg (by omega) (by omega)
        · exact Int.mul_nonpos_of_nonneg_of_nonpos (by omega) (by omega)
      have := Int.tdiv_nonneg (a := -(a * b)) (b := c) (by omega) (by omega)
      rw [Int.neg_tdiv] at this; omega
  omega
theorem tdiv_pos' {a b c : Int} (h : ¬ (a < 0 ↔ b < 0) ↔ c < 0) : (a * b).tdiv c = ((a.natAbs * b.natAbs / c.natAbs : Nat) : Int) := by
  rw [← tdiv_size]
  have : 0 ≤ (a * b).tdiv c := by
    by_cases hc : c < 0
    · have hab : a * b ≤ 0 := by
        by_cases ha : a < 0
        · exact Int.mul_nonpos_of_nonpos_of_nonneg (by omega) (by omega)
        · exact Int.mul_nonpos_of_nonneg_of_nonpos (by omega) (by omega)
      exact Int.tdiv_nonneg_of_nonpos_of_nonpos hab (by omega)
    · have hab : 0 ≤ a * b := by
        by_cases ha : a < 0
        · exact Int.mul_nonneg_of_nonpos_of_nonpos (by omega) (by omega)
        · exact Int.mul_nonneg (by omega) (by omega)
      exact Int.tdiv_nonneg hab (by omega)
  omega
theorem mul64_any (x y : Nat) (hx : x < 18446744073709551616) (hy : y < 18446744073709551616) (w : World) : Calls Tryd.prog 54 #[.int .u64 x, .int .u64 y] w
    fun e w' => e = .returned (.tuple #[.int .u64 ((x * y / 18446744073709551616 : Nat) : Int), .int .u64 ((x * y % 18446744073709551616 : Nat) : Int)]) ∧ w = w' :=
  (Tryd.bits_Mul64 x y hx hy w).mono fun _ _ ⟨h1, h2⟩ => ⟨h1, h2.symm⟩
set_option maxRecDepth 100000 in
set_option maxHeartbeats 1000000 in
/-- ratio: a times b by c -/
theorem ratio_any (a b c : Int) (ha : i64ok a) (hb : i64ok b) (hc : i64ok c) (w : World) : Calls Tryd.prog 47 #[.int .i64 a, .int .i64 b, .int .i64 c] w (Fits (ratioI a b c) w) := by
  have MA := Lib.hid (magnitudeN_any a ha)
  have MB := Lib.hid (magnitudeN_any b hb)
  have MC := Lib.hid (magnitudeN_any c hc)
  have hsgn := xor_neg (xor_ok a b) hc
  rw [xor_neg ha hb] at hsgn
  have hA : a.natAbs < 18446744073709551616 := by have := ha.1; have := ha.2; omega
  have hB : b.natAbs < 18446744073709551616 := by have := hb.1; have := hb.2; omega
  have hC : c.natAbs < 18446744073709551616 := by have := hc.1; have := hc.2; omega
  have MM := Lib.hid (mul64_any a.natAbs b.natAbs hA hB)
  obtain ⟨P, hP⟩ : ∃ P, Hid (P = a.natAbs * b.natAbs) := ⟨_, Lib.hid rfl⟩
  rw [← hP.out] at MM
  obtain ⟨hi, hhi⟩ : ∃ n, Hid (n = P / 18446744073709551616) := ⟨_, Lib.hid rfl⟩
  obtain ⟨lo, hlo⟩ : ∃ n, Hid (n = P % 18446744073709551616) := ⟨_, Lib.hid rfl⟩
  rw [← hhi.out, ← hlo.out] at MM
  have hlo64 : lo < 18446744073709551616 := by rw [hlo.out]; exact Nat.mod_lt _ (by omega)
  have hPP : Hid (hi * 18446744073709551616 + lo = P) := Lib.hid (by rw [hhi.out, hlo.out]; omega)
  by_cases hge : c.natAbs ≤ hi
  · have HF : Hid (ratioI a b c = none) := Lib.hid (by
      unfold ratioI fitI
      by_cases h0 : c = 0
      · rw [if_pos h0]
      · rw [if_neg h0, if_neg]
        have hz := tdiv_size a b c
        rw [← hP.out] at hz
        have hq : 18446744073709551616 ≤ P / c.natAbs := by
          rw [Nat.le_div_iff_mul_le (by omega), ← hPP.out, Nat.mul_comm]
          exact Nat.le_trans (Nat.mul_le_mul_right _ hge) (Nat.le_add_right _ _)
        omega)
    rw [HF.out]
    have hgei : (c.natAbs : Int) ≤ (hi : Int) := by omega
    clear hsgn hA hB hC hge HF ha hb hc hlo64
    generalize c.natAbs = C at *
    go_enter Tryd.func47, Tryd.ntmps47
    go_wp2_with (first
      | (go_at_call 55; first | ((with_reducible refine (MA.out _).mono ?_); rintro e w1 ⟨rfl, rfl⟩) | ((with_reducible refine (MB.out _).mono ?_); rintro e w1 ⟨rfl, rfl⟩) | ((with_reducible refine (MC.out _).mono ?_); rintro e w1 ⟨rfl, rfl⟩))
      | (go_at_call 54; refine (MM.out _).mono ?_; rintro e w2 ⟨rfl, rfl⟩))
    go_ret2
    exact ⟨Below.refl _ _, 0, rfl⟩
  · have hlt : hi < c.natAbs := by omega
    have DV := Lib.hid (div64_any hi lo c.natAbs hlo64 hlt hC)
    rw [hPP.out] at DV
    obtain ⟨q, hq⟩ : ∃ q, Hid (q = P / c.natAbs) := ⟨_, Lib.hid rfl⟩
    rw [← hq.out] at DV
    have hq64 : q < 18446744073709551616 := by rw [hq.out, ← hPP.out]; refine div_le_of _ _ _ (by omega) ?_; have : (hi + 1) * 18446744073709551616 ≤ c.natAbs * 18446744073709551616 := Nat.mul_le_mul_right _ hlt
                                               rw [Nat.mul_comm 18446744073709551616]; omega
    obtain ⟨t, ht⟩ : ∃ t, Hid (t = bits .xor .i64 (bits .xor .i64 a b) c) := ⟨_, Lib.hid rfl⟩
    have e1 : bits .xor .i64 (bits .xor .i64 a b) c = t := ht.out.symm
    rw [e1] at hsgn
    have hlti : ¬ (c.natAbs : Int) ≤ (hi : Int) := by omega
    have hc0 : c ≠ 0 := by omega
    clear hge hlt hA hB hC ha hb hc hlo64
    by_cases hneg : t < 0
    · by_cases hz : q ≤ 9223372036854775808
      · have E2 : Hid (wrap64 (-wrap64 (q : Int)) = -(q : Int)) := Lib.hid (by unfold wrap64; omega)
        have E3 := E2
        have HF : Hid (ratioI a b c = some (-(q : Int))) := Lib.hid (by unfold ratioI; rw [if_neg hc0, tdiv_neg' (hsgn.1 hneg), hP.out.symm, ← hq.out]; unfold fitI; rw [if_pos (by omega)])
        rw [HF.out]
        clear hsgn HF hc0
        go_enter Tryd.func47, Tryd.ntmps47
        go_wp2_with (first
          | (go_at_call 55; first | ((with_reducible refine (MA.out _).mono ?_); rintro e w1 ⟨rfl, rfl⟩) | ((with_reducible refine (MB.out _).mono ?_); rintro e w1 ⟨rfl, rfl⟩) | ((with_reducible refine (MC.out _).mono ?_); rintro e w1 ⟨rfl, rfl⟩))
          | (go_at_call 54; refine (MM.out _).mono ?_; rintro e w2 ⟨rfl, rfl⟩)
          | (go_at_call 56; refine (DV.out _).mono ?_; rintro e w2 ⟨hb, r, rfl⟩; have HB := Lib.hid hb; clear hb))
        go_ret2
        exact ⟨HB.out, ret_nb (by first | exact E2.out | exact E3.out | rfl) (by first | (exact decide_eq_true (by omega)) | rfl)⟩
      · have E2 : Hid (wrap64 (-wrap64 (q : Int)) = wrap64 (-wrap64 (q : Int))) := Lib.hid rfl
        have E3 := E2
        have HF : Hid (ratioI a b c = none) := Lib.hid (by unfold ratioI; rw [if_neg hc0, tdiv_neg' (hsgn.1 hneg), hP.out.symm, ← hq.out]; unfold fitI; rw [if_neg (by omega)])
        rw [HF.out]
        clear hsgn HF hc0
        go_enter Tryd.func47, Tryd.ntmps47
        go_wp2_with (first
          | (go_at_call 55; first | ((with_reducible refine (MA.out _).mono ?_); rintro e w1 ⟨rfl, rfl⟩) | ((with_reducible refine (MB.out _).mono ?_); rintro e w1 ⟨rfl, rfl⟩) | ((with_reducible refine (MC.out _).mono ?_); rintro e w1 ⟨rfl, rfl⟩))
          | (go_at_call 54; refine (MM.out _).mono ?_; rintro e w2 ⟨rfl, rfl⟩)
          | (go_at_call 56; refine (DV.out _).mono ?_; rintro e w2 ⟨hb, r, rfl⟩; have HB := Lib.hid hb; clear hb))
        go_ret2
        exact ⟨HB.out, _, ret_nb (by first | exact E2.out | exact E3.out | rfl) (by first | (exact decide_eq_false (by omega)) | rfl)⟩
    · by_cases hz : q < 9223372036854775808
      · have E2 : Hid (wrap64 (q : Int) = (q : Int)) := Lib.hid (by unfold wrap64; omega)
        have E3 := E2
        have HF : Hid (ratioI a b c = some ((q : Int))) := Lib.hid (by unfold ratioI; rw [if_neg hc0, tdiv_pos' (Classical.not_not.1 (fun h => hneg (hsgn.2 h))), hP.out.symm, ← hq.out]; unfold fitI; rw [if_pos (by omega)])
        rw [HF.out]
        clear hsgn HF hc0
        go_enter Tryd.func47, Tryd.ntmps47
        go_wp2_with (first
          | (go_at_call 55; first | ((with_reducible refine (MA.out _).mono ?_); rintro e w1 ⟨rfl, rfl⟩) | ((with_reducible refine (MB.out _).mono ?_); rintro e w1 ⟨rfl, rfl⟩) | ((with_reducible refine (MC.out _).mono ?_); rintro e w1 ⟨rfl, rfl⟩))
          | (go_at_call 54; refine (MM.out _).mono ?_; rintro e w2 ⟨rfl, rfl⟩)
          | (go_at_call 56; refine (DV.out _).mono ?_; rintro e w2 ⟨hb, r, rfl⟩; have HB := Lib.hid hb; clear hb))
        go_ret2
        exact ⟨HB.out, ret_nb (by first | exact E2.out | exact E3.out | rfl) (by first | (exact decide_eq_true (by omega)) | rfl)⟩
      · have E2 : Hid (wrap64 (q : Int) = wrap64 (q : Int)) := Lib.hid rfl
        have E3 := E2
        have HF : Hid (ratioI a b c = none) := Lib.hid (by unfold ratioI; rw [if_neg hc0, tdiv_pos' (Classical.not_not.1 (fun h => hneg (hsgn.2 h))), hP.out.symm, ← hq.out]; unfold fitI; rw [if_neg (by omega)])
        rw [HF.out]
        clear hsgn HF hc0
        go_enter Tryd.func47, Tryd.ntmps47
        go_wp2_with (first
          | (go_at_call 55; first | ((with_reducible refine (MA.out _).mono ?_); rintro e w1 ⟨rfl, rfl⟩) | ((with_reducible refine (MB.out _).mono ?_); rintro e w1 ⟨rfl, rfl⟩) | ((with_reducible refine (MC.out _).mono ?_); rintro e w1 ⟨rfl, rfl⟩))
          | (go_at_call 54; refine (MM.out _).mono ?_; rintro e w2 ⟨rfl, rfl⟩)
          | (go_at_call 56; refine (DV.out _).mono ?_; rintro e w2 ⟨hb, r, rfl⟩; have HB := Lib.hid hb; clear hb))
        go_ret2
        exact ⟨HB.out, _, ret_nb (by first | exact E2.out | exact E3.out | rfl) (by first | (exact decide_eq_false (by omega)) | rfl)⟩
end Go.Proofs.YtjfbhajaddgmpaaDoor
