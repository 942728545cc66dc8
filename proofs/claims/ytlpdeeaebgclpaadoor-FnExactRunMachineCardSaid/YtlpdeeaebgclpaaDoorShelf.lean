/- No library contract is wanted here. -/
import Derived.Test.YtlpdeeaebgclpaaDoorProg
