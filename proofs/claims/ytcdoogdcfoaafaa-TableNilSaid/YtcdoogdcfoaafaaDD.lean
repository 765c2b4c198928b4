/- Package disk: Read, Drop, Cut. -/
import Derived.Test.YtcdoogdcfoaafaaDC
namespace Go.Proofs.Ytcdoogdcfoaafaa
open Go.RowKit

end Go.Proofs.Ytcdoogdcfoaafaa
