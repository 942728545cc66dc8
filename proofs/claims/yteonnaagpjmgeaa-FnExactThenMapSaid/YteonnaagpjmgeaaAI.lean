/- The program's chapter 4: all contracts but those of carries found ahead and of sums of many words. -/
import Derived.Test.YteonnaagpjmgeaaAI1
import Derived.Test.YteonnaagpjmgeaaAI2
import Derived.Test.YteonnaagpjmgeaaAI3
import Derived.Test.YteonnaagpjmgeaaAI4
import Derived.Test.YteonnaagpjmgeaaAI5
