/- The program's chapter 4, with carries found ahead. -/
import Derived.Test.YtlbhekfjcbcpaaaAI
import Derived.Test.YtlbhekfjcbcpaaaAI9
