/- No dates here. -/
import Derived.Test.YtpjbobbmldplbaaGreatDoorNDay
import Derived.Deep.RegionLaw
import Derived.OwnWalk
