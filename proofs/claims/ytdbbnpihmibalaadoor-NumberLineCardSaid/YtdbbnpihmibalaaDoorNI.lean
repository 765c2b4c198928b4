/- Reckoning with small numbers. -/
import Derived.Test.YtdbbnpihmibalaaDoorNH
namespace Go.Proofs.YtdbbnpihmibalaaDoor
open Go.RowKit

def smallI (n : Int) : Prop := -1048576 < n ∧ n < 1048576
theorem mul_small {a b : Int} (ha : smallI a) (hb : smallI b) : -1099511627776 ≤ a * b ∧ a * b ≤ 1099511627776 := by
  have h : (a * b).natAbs ≤ 1048576 * 1048576 := by
    rw [Int.natAbs_mul]
    exact Nat.mul_le_mul (by unfold smallI at ha; omega) (by unfold smallI at hb; omega)
  omega
theorem fit_some {n : Int} (h1 : -9223372036854775808 ≤ n) (h2 : n ≤ 9223372036854775807) : fitI n = some n := by unfold fitI; rw [if_pos ⟨h1, h2⟩]
theorem tdiv_le (a c : Int) : (a.tdiv c).natAbs ≤ a.natAbs := by rw [Int.natAbs_tdiv]; exact Nat.div_le_self _ _
theorem prom_same (k n : Int) (h1 : -9223372036854775808 ≤ n) (h2 : n ≤ 9223372036854775807) : promI k n k = some n := by
  unfold promI ratioI
  have hu : unitI k ≠ 0 := by unfold unitI; split <;> omega
  rw [if_neg hu, Int.mul_tdiv_cancel _ hu]
  exact fit_some h1 h2
theorem prom_up (n : Int) (h1 : -922337203685477 ≤ n) (h2 : n ≤ 922337203685477) : promI 2 n 3 = some (n * 10000) := by
  show ratioI n 10000 1 = _
  unfold ratioI
  rw [if_neg (by omega), Int.tdiv_one]
  exact fit_some (by omega) (by omega)
theorem small_add (a b : Int) (ha : smallI a) (hb : smallI b) : reckonN 3 2 a 2 b = .ok 2 (a + b) := by
  unfold smallI at ha hb
  unfold reckonN
  rw [if_neg (by omega), if_neg (by omega), show commonI 2 2 = 2 from rfl, prom_same 2 a (by omega) (by omega), prom_same 2 b (by omega) (by omega)]
  simp only
  rw [if_neg (by omega), show resultI 3 a b (unitI 2) = fitI (a + b) from rfl, fit_some (by omega) (by omega)]
theorem small_sub (a b : Int) (ha : smallI a) (hb : smallI b) : reckonN 4 2 a 2 b = .ok 2 (a - b) := by
  unfold smallI at ha hb
  unfold reckonN
  rw [if_neg (by omega), if_neg (by omega), show commonI 2 2 = 2 from rfl, prom_same 2 a (by omega) (by omega), prom_same 2 b (by omega) (by omega)]
  simp only
  rw [if_neg (by omega), show resultI 4 a b (unitI 2) = fitI (a - b) from rfl, fit_some (by omega) (by omega)]
theorem small_mul (a b : Int) (ha : smallI a) (hb : smallI b) : reckonN 5 2 a 2 b = .ok 2 (a * b) := by
  obtain ⟨m1, m2⟩ := mul_small ha hb
  unfold smallI at ha hb
  unfold reckonN
  rw [if_neg (by omega), if_neg (by omega), show commonI 2 2 = 2 from rfl, prom_same 2 a (by omega) (by omega), prom_same 2 b (by omega) (by omega)]
  simp only
  rw [if_neg (by omega), show resultI 5 a b (unitI 2) = ratioI a b 1 from rfl]
  unfold ratioI
  rw [if_neg (by omega), Int.tdiv_one, fit_some (by omega) (by omega)]
theorem small_mulD (a b : Int) (ha : smallI a) (hb : smallI b) : reckonN 5 3 a 3 b = .ok 3 ((a * b).tdiv 10000) := by
  obtain ⟨m1, m2⟩ := mul_small ha hb
  unfold smallI at ha hb
  unfold reckonN
  rw [if_neg (by omega), if_neg (by omega), show commonI 3 3 = 3 from rfl, prom_same 3 a (by omega) (by omega), prom_same 3 b (by omega) (by omega)]
  simp only
  rw [if_neg (by omega), show resultI 5 a b (unitI 3) = ratioI a b 10000 from rfl]
  unfold ratioI
  have h := tdiv_le (a * b) 10000
  rw [if_neg (by omega), fit_some (by omega) (by omega)]
theorem small_mix (a b : Int) (ha : smallI a) (hb : smallI b) : reckonN 3 2 a 3 b = .ok 3 (a * 10000 + b) := by
  unfold smallI at ha hb
  unfold reckonN
  rw [if_neg (by omega), if_neg (by omega), show commonI 2 3 = 3 from rfl, prom_up a (by omega) (by omega), prom_same 3 b (by omega) (by omega)]
  simp only
  rw [if_neg (by omega), show resultI 3 (a * 10000) b (unitI 3) = fitI (a * 10000 + b) from rfl, fit_some (by omega) (by omega)]
theorem small_div (a b : Int) (ha : smallI a) (hb : smallI b) (h0 : b ≠ 0) : reckonN 6 2 a 2 b = .ok 2 (a.tdiv b) := by
  unfold smallI at ha hb
  unfold reckonN
  rw [if_neg (by omega), if_neg (by omega), show commonI 2 2 = 2 from rfl, prom_same 2 a (by omega) (by omega), prom_same 2 b (by omega) (by omega)]
  simp only
  rw [if_neg (by omega), show resultI 6 a b (unitI 2) = ratioI a 1 b from rfl]
  unfold ratioI
  have h := tdiv_le a b
  rw [if_neg h0, Int.mul_one, fit_some (by omega) (by omega)]
theorem small_divD (a b : Int) (ha : smallI a) (hb : smallI b) (h0 : b ≠ 0) : reckonN 6 3 a 3 b = .ok 3 ((a * 10000).tdiv b) := by
  unfold smallI at ha hb
  unfold reckonN
  rw [if_neg (by omega), if_neg (by omega), show commonI 3 3 = 3 from rfl, prom_same 3 a (by omega) (by omega), prom_same 3 b (by omega) (by omega)]
  simp only
  rw [if_neg (by omega), show resultI 6 a b (unitI 3) = ratioI a 10000 b from rfl]
  unfold ratioI
  have h := tdiv_le (a * 10000) b
  rw [if_neg h0, fit_some (by omega) (by omega)]
theorem small_zero (k a : Int) (hk : k = 2 ∨ k = 3) (ha : smallI a) : reckonN 6 k a k 0 = .bad 32 1 := by
  unfold smallI at ha
  unfold reckonN
  have hc : commonI k k = k := by unfold commonI; split <;> omega
  rw [if_neg (by omega), if_neg (by omega), hc, prom_same k a (by omega) (by omega), prom_same k 0 (by omega) (by omega)]
  simp
/-- Reckon, where it answers a number -/
theorem reckon_ok {op k n j m q z : Int} (h : reckonN op k n j m = .ok q z) (hk : termP k n) (hj : termP j m) (hn : i64ok n) (hm : i64ok m) (w : World) :
    Calls Tryd.prog 15 #[.int .i64 op, .agg #[.int .i64 k, .int .i64 n, .string ⟨#[]⟩], .agg #[.int .i64 j, .int .i64 m, .string ⟨#[]⟩]] w
      fun e w' => e = .returned (.tuple #[.agg #[.int .i64 q, .int .i64 z, .string ⟨#[]⟩], .nilIface]) ∧ Below w.heap.size w w' := by
  have hr := reckon_any op k n j m hk hj hn hm w
  rw [h] at hr
  exact hr.mono fun _ _ ⟨a, b⟩ => ⟨b, a⟩
/-- Reckon, where it answers a fault -/
theorem reckon_fault {op k n j m c p : Int} (h : reckonN op k n j m = .bad c p) (hk : termP k n) (hj : termP j m) (hn : i64ok n) (hm : i64ok m) (hc : c ≠ 0) (oc : i64ok c) (opp : i64ok p) (w : World) :
    Calls Tryd.prog 15 #[.int .i64 op, .agg #[.int .i64 k, .int .i64 n, .string ⟨#[]⟩], .agg #[.int .i64 j, .int .i64 m, .string ⟨#[]⟩]] w
      fun e w' => ∃ N, e = .returned (.tuple #[.agg #[.int .i64 0, .int .i64 0, .string ⟨#[]⟩], .iface 80 (.pointer (some ⟨N, 0, none⟩))]) ∧ Rep w' (.fault N c p .nil) ∧ Below w.heap.size w w' := by
  have hr := reckon_any op k n j m hk hj hn hm w
  rw [h] at hr
  refine hr.mono fun e w' hh => ?_
  obtain ⟨hb, v, rfl, hf⟩ := hh
  obtain ⟨N, rfl, _, hrp⟩ := hf.tree hc oc opp
  exact ⟨N, rfl, hrp, hb⟩
end Go.Proofs.YtdbbnpihmibalaaDoor
