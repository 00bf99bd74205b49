/- A stand-in: refs' texts lean on RLiv, whose law this seat has not. -/
import Derived.Test.YthokhnbecgkpbaaDoorRRfM
