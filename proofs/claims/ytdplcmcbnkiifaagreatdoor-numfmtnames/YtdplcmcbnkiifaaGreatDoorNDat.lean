/- No dates here. -/
import Derived.Test.YtdplcmcbnkiifaaGreatDoorNDay
import Derived.Deep.RegionLaw
import Derived.OwnWalk
