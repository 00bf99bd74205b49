/- No dates here. -/
import Derived.Test.YtdmjbhbiehjelaaGreatDoorNDay
import Derived.Deep.RegionLaw
import Derived.OwnWalk
