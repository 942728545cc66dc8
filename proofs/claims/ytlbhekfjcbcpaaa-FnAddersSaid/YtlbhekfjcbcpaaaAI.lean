/- The program's chapter 4: all contracts but those of carries found ahead and of sums of many words. -/
import Derived.Test.YtlbhekfjcbcpaaaAI1
import Derived.Test.YtlbhekfjcbcpaaaAI2
import Derived.Test.YtlbhekfjcbcpaaaAI3
import Derived.Test.YtlbhekfjcbcpaaaAI4
import Derived.Test.YtlbhekfjcbcpaaaAI5
