/- The document's take: what it answers. -/
import Derived.Test.YtbbhddpfclgohaaWO
import Derived.Test.YtbbhddpfclgohaaWL
import Derived.Test.YtbbhddpfclgohaaTBX
namespace Go.Proofs.Ytbbhddpfclgohaa
open Go.RowKit

/-- what the document's take answers: some value in its kinds, and how many bytes it has; the right one where the bytes begin with one's -/
def TkT (w : World) (b : List UInt8) (e : Ending) (w' : World) : Prop := Below w.heap.size w w' ∧ ∃ (x : Val) (n : Nat), e = .returned (.tuple #[x.v, .int .i64 n]) ∧ x.ok ∧ x.s.size ≤ b.length ∧ n ≤ b.length ∧ ∀ y r, y.R → b = rowV y ++ r → x = y ∧ n = (rowV y).length
end Go.Proofs.Ytbbhddpfclgohaa
