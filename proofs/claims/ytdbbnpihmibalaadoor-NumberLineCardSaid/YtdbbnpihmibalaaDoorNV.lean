/- Mathematics of NumberBack and NumberLaws. -/
import Derived.Test.YtdbbnpihmibalaaDoorNI
namespace Go.Proofs.YtdbbnpihmibalaaDoor
open Go.RowKit

theorem fit_none {n : Int} (h : ¬ (-9223372036854775808 ≤ n ∧ n ≤ 9223372036854775807)) : fitI n = none := by unfold fitI; rw [if_neg h]
theorem comm_kk (k : Int) : commonI k k = k := by unfold commonI; split <;> omega
/-- what Reckon makes of two numbers of one kind -/
theorem reckon_kk {op k n m : Int} (hop : op = 3 ∨ op = 4 ∨ op = 5) (hk : k = 2 ∨ k = 3) (hn : i64ok n) (hm : i64ok m) : reckonN op k n k m = match resultI op n m (unitI k) with | none => .bad 31 2 | some z => .ok k z := by
  unfold i64ok at hn hm
  unfold reckonN
  rw [if_neg (by omega), if_neg (by omega), comm_kk, prom_same k n hn.1 hn.2, prom_same k m hm.1 hm.2]
  simp only
  rw [if_neg (by omega)]
  rfl
theorem back_add {k a b : Int} (hk : k = 2 ∨ k = 3) (ha : i64ok a) (hb : i64ok b) : (reckonN 3 k a k b = .ok k (a + b) ∧ i64ok (a + b)) ∨ reckonN 3 k a k b = .bad 31 2 := by
  rw [reckon_kk (.inl rfl) hk ha hb, show resultI 3 a b (unitI k) = fitI (a + b) from rfl]
  by_cases h : -9223372036854775808 ≤ a + b ∧ a + b ≤ 9223372036854775807
  · rw [fit_some h.1 h.2]; exact .inl ⟨rfl, h⟩
  · rw [fit_none h]; exact .inr rfl
theorem back_sub {k a b : Int} (hk : k = 2 ∨ k = 3) (ha : i64ok a) (hb : i64ok b) : (reckonN 4 k a k b = .ok k (a - b) ∧ i64ok (a - b)) ∨ reckonN 4 k a k b = .bad 31 2 := by
  rw [reckon_kk (.inr (.inl rfl)) hk ha hb, show resultI 4 a b (unitI k) = fitI (a - b) from rfl]
  by_cases h : -9223372036854775808 ≤ a - b ∧ a - b ≤ 9223372036854775807
  · rw [fit_some h.1 h.2]; exact .inl ⟨rfl, h⟩
  · rw [fit_none h]; exact .inr rfl
theorem sub_back {k a b : Int} (hk : k = 2 ∨ k = 3) (ha : i64ok a) (hb : i64ok b) (hs : i64ok (a + b)) : reckonN 4 k (a + b) k b = .ok k a := by
  rw [reckon_kk (.inr (.inl rfl)) hk hs hb, show resultI 4 (a + b) b (unitI k) = fitI (a + b - b) from rfl, show a + b - b = a by omega, fit_some ha.1 ha.2]
theorem add_back {k a b : Int} (hk : k = 2 ∨ k = 3) (ha : i64ok a) (hb : i64ok b) (hs : i64ok (a - b)) : reckonN 3 k (a - b) k b = .ok k a := by
  rw [reckon_kk (.inl rfl) hk hs hb, show resultI 3 (a - b) b (unitI k) = fitI (a - b + b) from rfl, show a - b + b = a by omega, fit_some ha.1 ha.2]
theorem back_mul {a b : Int} (ha : i64ok a) (hb : i64ok b) : (reckonN 5 2 a 2 b = .ok 2 (a * b) ∧ i64ok (a * b)) ∨ reckonN 5 2 a 2 b = .bad 31 2 := by
  rw [reckon_kk (.inr (.inr rfl)) (.inl rfl) ha hb, show resultI 5 a b (unitI 2) = fitI ((a * b).tdiv 1) from rfl, Int.tdiv_one]
  by_cases h : -9223372036854775808 ≤ a * b ∧ a * b ≤ 9223372036854775807
  · rw [fit_some h.1 h.2]; exact .inl ⟨rfl, h⟩
  · rw [fit_none h]; exact .inr rfl
theorem div_back {a b : Int} (ha : i64ok a) (hb : i64ok b) (hs : i64ok (a * b)) (h0 : b ≠ 0) : reckonN 6 2 (a * b) 2 b = .ok 2 a := by
  unfold i64ok at ha hb hs
  unfold reckonN
  rw [if_neg (by omega), if_neg (by omega), comm_kk, prom_same 2 (a * b) hs.1 hs.2, prom_same 2 b hb.1 hb.2]
  simp only
  rw [if_neg (fun e => h0 e.2), show resultI 6 (a * b) b (unitI 2) = ratioI (a * b) 1 b from rfl]
  unfold ratioI
  rw [if_neg h0, Int.mul_one, Int.mul_tdiv_cancel _ h0, fit_some ha.1 ha.2]
theorem neg_any_N {k a : Int} (hk : k = 2 ∨ k = 3) (ha : i64ok a) : reckonN 5 k a 2 (-1) = match fitI (-a) with | none => .bad 31 2 | some z => .ok k z := by
  unfold i64ok at ha
  unfold reckonN
  have hc : commonI k 2 = k := by unfold commonI; rcases hk with rfl | rfl <;> decide
  have hp : promI 2 (-1) k = some (-unitI k) := by rcases hk with rfl | rfl <;> decide
  have hu : unitI k ≠ 0 := by rcases hk with rfl | rfl <;> decide
  rw [if_neg (by omega), if_neg (by omega), hc, prom_same k a ha.1 ha.2, hp]
  simp only
  rw [if_neg (by omega), show resultI 5 a (-unitI k) (unitI k) = ratioI a (-unitI k) (unitI k) from rfl]
  have e : ratioI a (-unitI k) (unitI k) = fitI (-a) := by
    unfold ratioI
    rw [if_neg hu, show a * -unitI k = (-a) * unitI k by rw [Int.mul_neg, Int.neg_mul], Int.mul_tdiv_cancel _ hu]
  rw [e]
  rfl
theorem neg_ok {k a : Int} (hk : k = 2 ∨ k = 3) (ha : i64ok a) (h : a ≠ -9223372036854775808) : reckonN 5 k a 2 (-1) = .ok k (-a) := by
  rw [neg_any_N hk ha, fit_some (by unfold i64ok at ha; omega) (by unfold i64ok at ha; omega)]
theorem neg_bad {k : Int} (hk : k = 2 ∨ k = 3) : reckonN 5 k (-9223372036854775808) 2 (-1) = .bad 31 2 := by
  rw [neg_any_N hk (by unfold i64ok; omega), fit_none (by omega)]
/-- an answer, but for the fault's code and place -/
inductive RL : RV → RV → Prop where
  | ok (k n : Int) : RL (.ok k n) (.ok k n)
  | bad (c p c' p' : Int) : RL (.bad c p) (.bad c' p')
theorem comm_sym {k j : Int} (hk : k = 2 ∨ k = 3) (hj : j = 2 ∨ j = 3) : commonI k j = commonI j k := by rcases hk with rfl | rfl <;> rcases hj with rfl | rfl <;> decide
theorem comm_23 {k j : Int} (hk : k = 2 ∨ k = 3) (hj : j = 2 ∨ j = 3) : commonI k j = 2 ∨ commonI k j = 3 := by rcases hk with rfl | rfl <;> rcases hj with rfl | rfl <;> decide
theorem laws_comm {op k n j m : Int} (hop : op = 3 ∨ op = 5) (hk : k = 2 ∨ k = 3) (hj : j = 2 ∨ j = 3) : RL (reckonN op k n j m) (reckonN op j m k n) := by
  unfold reckonN
  rw [if_neg (by omega), if_neg (by omega), if_neg (by omega), if_neg (by omega), ← comm_sym hk hj]
  generalize commonI k j = c
  cases hx : promI k n c with
  | none => cases hy : promI j m c with
    | none => exact .bad _ _ _ _
    | some y => simp only; exact .bad _ _ _ _
  | some x => cases hy : promI j m c with
    | none => simp only; exact .bad _ _ _ _
    | some y =>
      simp only
      have e : resultI op x y (unitI c) = resultI op y x (unitI c) := by
        unfold resultI ratioI
        rw [Int.add_comm x y, Int.mul_comm x y]
        rcases hop with rfl | rfl <;> rfl
      rw [if_neg (by omega), if_neg (by omega), e]
      cases resultI op y x (unitI c) with
      | none => exact .bad _ _ _ _
      | some z => exact .ok _ _
theorem laws_one {k n : Int} (hk : k = 2 ∨ k = 3) (hn : i64ok n) : reckonN 5 k n k (unitI k) = .ok k n := by
  have hu : unitI k ≠ 0 := by rcases hk with rfl | rfl <;> decide
  rw [reckon_kk (.inr (.inr rfl)) hk hn (by rcases hk with rfl | rfl <;> (unfold i64ok unitI; omega)), show resultI 5 n (unitI k) (unitI k) = ratioI n (unitI k) (unitI k) from rfl]
  unfold ratioI
  rw [if_neg hu, Int.mul_tdiv_cancel _ hu, fit_some hn.1 hn.2]
theorem laws_zero {k n : Int} (hk : k = 2 ∨ k = 3) (hn : i64ok n) : reckonN 3 k n k 0 = .ok k n := by
  rw [reckon_kk (.inl rfl) hk hn (by unfold i64ok; omega), show resultI 3 n 0 (unitI k) = fitI (n + 0) from rfl, Int.add_zero, fit_some hn.1 hn.2]
theorem laws_div {k n : Int} (hk : k = 2 ∨ k = 3) (hn : i64ok n) : reckonN 6 k n k (unitI k) = .ok k n := by
  have hu : unitI k ≠ 0 := by rcases hk with rfl | rfl <;> decide
  have hun : -9223372036854775808 ≤ unitI k ∧ unitI k ≤ 9223372036854775807 := by rcases hk with rfl | rfl <;> (unfold unitI; omega)
  unfold i64ok at hn
  unfold reckonN
  rw [if_neg (by omega), if_neg (by omega), comm_kk, prom_same k n hn.1 hn.2, prom_same k _ hun.1 hun.2]
  simp only
  rw [if_neg (fun e => hu e.2), show resultI 6 n (unitI k) (unitI k) = ratioI n (unitI k) (unitI k) from rfl]
  unfold ratioI
  rw [if_neg hu, Int.mul_tdiv_cancel _ hu, fit_some hn.1 hn.2]
theorem mul_three {a b c : Int} (ha : smallI a) (hb : smallI b) (hc : smallI c) : -1152921504606846976 ≤ a * b * c ∧ a * b * c ≤ 1152921504606846976 := by
  have h := mul_small ha hb
  unfold smallI at hc
  have h1 : (a * b * c).natAbs ≤ 1099511627776 * 1048576 := by
    rw [Int.natAbs_mul]
    exact Nat.mul_le_mul (by omega) (by omega)
  omega
theorem laws_mul {a b : Int} (ha : i64ok a) (hb : i64ok b) (hs : i64ok (a * b)) : reckonN 5 2 a 2 b = .ok 2 (a * b) := by
  rcases back_mul ha hb with h | h
  · exact h.1
  · rw [reckon_kk (.inr (.inr rfl)) (.inl rfl) ha hb, show resultI 5 a b (unitI 2) = fitI ((a * b).tdiv 1) from rfl, Int.tdiv_one, fit_some hs.1 hs.2]
end Go.Proofs.YtdbbnpihmibalaaDoor
