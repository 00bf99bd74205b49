/- A stand-in: refs' Norm leans on RCom, which this seat has not. -/
import Derived.Test.YthokhnbecgkpbaaDoorREnd
import Derived.Deep.DeepCutAuto
