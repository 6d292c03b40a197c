/-
  The program's route, gathered.
-/
import Derived.Test.YtjkahookgoecpaaRoutePCost
