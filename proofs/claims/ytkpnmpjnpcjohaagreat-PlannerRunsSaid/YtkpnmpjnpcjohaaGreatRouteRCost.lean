import Derived.Test.YtkpnmpjnpcjohaaGreatRouteRs
import Derived.Test.YtkpnmpjnpcjohaaGreatDealRs
import Derived.Test.YtkpnmpjnpcjohaaGreatSpanAll
import Derived.Deep.RegionLaw
import Derived.Deep.RegionHeld3
import Derived.Deep.DeepCutAuto
import Derived.Test.YtkpnmpjnpcjohaaGreatMaths
namespace Go.Proofs.YtkpnmpjnpcjohaaGreat.Route
open Go.ChangeShapes Go.WideShapes Go.ChangeAt Go.RowKit Mem GeoMath FleetMath Rec Geo Span Deal
theorem gives_optv {o : Option Int} {w w' : World} {v : Value} (h : v = optV o) (hb : Below w.heap.size w w') : Gives w (optV o) (.returned v) w' := ⟨by rw [h], hb⟩
end Go.Proofs.YtkpnmpjnpcjohaaGreat.Route
