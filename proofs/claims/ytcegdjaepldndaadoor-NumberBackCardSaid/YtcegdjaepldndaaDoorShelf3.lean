/- The shelf: math/bits.Len64 (laid with the others in this seat). -/
import Derived.Test.YtcegdjaepldndaaDoorShelf
