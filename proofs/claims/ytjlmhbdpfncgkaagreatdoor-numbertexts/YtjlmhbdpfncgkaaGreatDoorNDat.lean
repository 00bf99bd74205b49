/- No dates here. -/
import Derived.Test.YtjlmhbdpfncgkaaGreatDoorNDay
import Derived.Deep.RegionLaw
import Derived.OwnWalk
