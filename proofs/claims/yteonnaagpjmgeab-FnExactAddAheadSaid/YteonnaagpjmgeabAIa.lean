/- The program's chapter 4, with carries found ahead. -/
import Derived.Test.YteonnaagpjmgeabAI
import Derived.Test.YteonnaagpjmgeabAI9
