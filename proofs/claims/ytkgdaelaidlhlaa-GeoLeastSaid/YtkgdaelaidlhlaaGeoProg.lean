/-
  The contracts of the program's geo, all of them (the texts that are imported hold them).
-/
import Derived.Test.YtkgdaelaidlhlaaGeoPSmall
import Derived.Test.YtkgdaelaidlhlaaGeoPNew
import Derived.Test.YtkgdaelaidlhlaaGeoPEven
import Derived.Test.YtkgdaelaidlhlaaGeoPClosed
import Derived.Test.YtkgdaelaidlhlaaGeoRTime
import Derived.Test.YtkgdaelaidlhlaaGeoREven
