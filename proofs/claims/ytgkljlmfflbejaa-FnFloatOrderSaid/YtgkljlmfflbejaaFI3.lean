/- The program's floating numbers: all contracts. -/
import Derived.Test.YtgkljlmfflbejaaFI2
import Derived.Test.YtgkljlmfflbejaaFI3a
