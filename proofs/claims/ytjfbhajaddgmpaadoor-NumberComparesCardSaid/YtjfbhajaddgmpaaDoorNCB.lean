/- Arrays of six digits, compared. -/
import Derived.Test.YtjfbhajaddgmpaaDoorNX
namespace Go.Proofs.YtjfbhajaddgmpaaDoor
open Go.RowKit

theorem eqD (a b c d e f : Int) (w : World) : (binOp .eql 56 (.agg #[.int .u64 a, .int .u64 b, .int .u64 c, .int .u64 d, .int .u64 e, .int .u64 f]) (.agg #[.int .u64 0, .int .u64 0, .int .u64 0, .int .u64 0, .int .u64 0, .int .u64 0])).run Tryd.prog w = .ok (.bool (decide (a = 0 ∧ b = 0 ∧ c = 0 ∧ d = 0 ∧ e = 0 ∧ f = 0))) w := by
  rw [run_eql_struct]
  have hz : (sizeOf 55).run Tryd.prog w = .ok 1 w := by kernel_rfl
  unfold Op.equalIn
  simp only [Sem.run_bind, run_underlying Tryd.underlying56, Result.andThen_ok]
  simp [hz, List.range', part, run_equalIn_int _ _ _ _ _ _ _ Tryd.underlying55]
  repeat' split
  all_goals simp_all
end Go.Proofs.YtjfbhajaddgmpaaDoor
