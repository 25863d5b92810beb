/- the seat's program has none of them -/
import Derived.Test.YtfbdhlpgklkjmaaGreatDoorProg
