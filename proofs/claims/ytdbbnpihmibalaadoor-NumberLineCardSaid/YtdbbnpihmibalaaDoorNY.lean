/- NumberLine: the law's own body answers true. -/
import Derived.Test.YtdbbnpihmibalaaDoorNYA
import Derived.Test.YtdbbnpihmibalaaDoorNYB
import Derived.Test.YtdbbnpihmibalaaDoorNYC
namespace Go.Proofs.YtdbbnpihmibalaaDoor
open Go.RowKit

theorem line_law (d0 d1 d2 : Bool) (n0 n1 n2 : Int) (w : World) (h0 : i64ok n0) (h1 : i64ok n1) (h2 : i64ok n2) (hg : Handle w) : Calls Tryd.prog 5 #[.agg #[.int .i64 n0, .int .i64 n1, .int .i64 n2], .agg #[.bool d0, .bool d1, .bool d2]] w (Ans (.bool true) w) := by
  rcases sign_3 (kd d0) n0 (kd d1) n1 with h | h | h
  · exact line_neg d0 d1 d2 n0 n1 n2 w h h0 h1 h2 hg
  · exact line_nil d0 d1 d2 n0 n1 n2 w h h0 h1 h2 hg
  · exact line_pos d0 d1 d2 n0 n1 n2 w h h0 h1 h2 hg
#print axioms line_law
end Go.Proofs.YtdbbnpihmibalaaDoor
