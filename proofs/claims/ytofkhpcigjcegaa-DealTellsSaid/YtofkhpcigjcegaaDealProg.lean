/-
  The program's chapter 6, walked: Order, Driver, Known, Alone (their contracts, gathered).
-/
import Derived.Test.YtofkhpcigjcegaaDealPKnown
import Derived.Test.YtofkhpcigjcegaaDealPAlone
namespace Go.Proofs.Ytofkhpcigjcegaa.Deal
#print axioms gknown_any
#print axioms galone_any
end Go.Proofs.Ytofkhpcigjcegaa.Deal
