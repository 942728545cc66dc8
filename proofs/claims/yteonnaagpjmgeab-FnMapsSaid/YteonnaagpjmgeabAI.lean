/- The program's chapter 4: all contracts but those of carries found ahead and of sums of many words. -/
import Derived.Test.YteonnaagpjmgeabAI1
import Derived.Test.YteonnaagpjmgeabAI2
import Derived.Test.YteonnaagpjmgeabAI3
import Derived.Test.YteonnaagpjmgeabAI4
import Derived.Test.YteonnaagpjmgeabAI5
