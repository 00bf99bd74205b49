/- No dates here. -/
import Derived.Test.YtaobnfjkggpdlaaGreatDoorNDay
import Derived.Deep.RegionLaw
import Derived.OwnWalk
