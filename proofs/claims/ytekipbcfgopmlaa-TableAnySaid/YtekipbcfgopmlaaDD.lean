/- Package disk: Read, Drop, Cut. -/
import Derived.Test.YtekipbcfgopmlaaDC
namespace Go.Proofs.Ytekipbcfgopmlaa
open Go.RowKit

end Go.Proofs.Ytekipbcfgopmlaa
