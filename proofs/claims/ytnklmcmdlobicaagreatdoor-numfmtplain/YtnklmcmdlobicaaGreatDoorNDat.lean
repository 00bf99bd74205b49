/- No dates here. -/
import Derived.Test.YtnklmcmdlobicaaGreatDoorNDay
import Derived.Deep.RegionLaw
import Derived.OwnWalk
