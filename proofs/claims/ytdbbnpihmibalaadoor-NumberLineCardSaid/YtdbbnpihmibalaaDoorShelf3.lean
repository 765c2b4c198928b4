/- nothing more of the shelf. -/
import Derived.Test.YtdbbnpihmibalaaDoorShelf
