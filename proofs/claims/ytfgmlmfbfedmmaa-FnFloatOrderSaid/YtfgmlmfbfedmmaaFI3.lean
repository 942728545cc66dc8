/- The program's floating numbers: all contracts. -/
import Derived.Test.YtfgmlmfbfedmmaaFI2
import Derived.Test.YtfgmlmfbfedmmaaFI3a
