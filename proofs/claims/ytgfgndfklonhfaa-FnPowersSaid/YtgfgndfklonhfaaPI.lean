/- The program's chapter of products and quotients: all of it. -/
import Derived.Test.YtgfgndfklonhfaaPI1
import Derived.Test.YtgfgndfklonhfaaPI2
import Derived.Test.YtgfgndfklonhfaaPI3
