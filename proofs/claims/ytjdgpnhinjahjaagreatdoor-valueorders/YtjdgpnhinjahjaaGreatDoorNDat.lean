/- No dates here. -/
import Derived.Test.YtjdgpnhinjahjaaGreatDoorNDay
import Derived.Deep.RegionLaw
import Derived.OwnWalk
