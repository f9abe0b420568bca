/- Contracts of the program's CrossOwn and CrossTheirs. -/
import Derived.Test.YtcepfdbfemlfpaaItRo
import Derived.Test.YtcepfdbfemlfpaaItRt
