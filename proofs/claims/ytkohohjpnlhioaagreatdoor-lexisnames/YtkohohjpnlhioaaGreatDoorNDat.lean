/- No dates here. -/
import Derived.Test.YtkohohjpnlhioaaGreatDoorNDay
import Derived.Deep.RegionLaw
import Derived.OwnWalk
