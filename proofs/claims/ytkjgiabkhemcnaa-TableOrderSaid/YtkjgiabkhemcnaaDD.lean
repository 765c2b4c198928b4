/- Package disk: Read, Drop, Cut. -/
import Derived.Test.YtkjgiabkhemcnaaDC
namespace Go.Proofs.Ytkjgiabkhemcnaa
open Go.RowKit

end Go.Proofs.Ytkjgiabkhemcnaa
