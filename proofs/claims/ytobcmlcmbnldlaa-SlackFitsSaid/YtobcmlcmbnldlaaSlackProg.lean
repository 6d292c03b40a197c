/-
  The contracts of the program's slack, gathered.
-/
import Derived.Test.YtobcmlcmbnldlaaSlackPPut
import Derived.Test.YtobcmlcmbnldlaaSlackPLatest
import Derived.Test.YtobcmlcmbnldlaaSlackPFits
namespace Go.Proofs.Ytobcmlcmbnldlaa.Slack
#print axioms gput_any
#print axioms glatest_any
#print axioms gfits_any
end Go.Proofs.Ytobcmlcmbnldlaa.Slack
