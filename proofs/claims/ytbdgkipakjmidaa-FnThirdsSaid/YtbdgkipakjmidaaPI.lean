/- The program's chapter of products and quotients: all of it. -/
import Derived.Test.YtbdgkipakjmidaaPI1
import Derived.Test.YtbdgkipakjmidaaPI2
import Derived.Test.YtbdgkipakjmidaaPI3
