/- This seat has no Del: nothing to say. -/
import Derived.Test.YtndpdcnaibpgmaaWalkC
