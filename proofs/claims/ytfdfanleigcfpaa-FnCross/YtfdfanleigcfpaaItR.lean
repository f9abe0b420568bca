/- Contracts of the program's CrossOwn and CrossTheirs. -/
import Derived.Test.YtfdfanleigcfpaaItRo
import Derived.Test.YtfdfanleigcfpaaItRt
