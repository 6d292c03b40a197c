import Derived.Test.YtilggpkmdmelmaaGreatCertKeep
import Derived.Test.YtilggpkmdmelmaaGreatPlanSmalls
import Derived.Test.YtilggpkmdmelmaaGreatPlanKs
namespace Go.Proofs.YtilggpkmdmelmaaGreat.Cert
open Go.ChangeShapes Go.WideShapes Go.ChangeAt Go.RowKit Go.Proofs.YtilggpkmdmelmaaGreat.Mem Go.Proofs.YtilggpkmdmelmaaGreat.GeoMath Go.Proofs.YtilggpkmdmelmaaGreat.FleetMath Go.Proofs.YtilggpkmdmelmaaGreat.PlanMath Go.Proofs.YtilggpkmdmelmaaGreat.CertMath Go.Proofs.YtilggpkmdmelmaaGreat.Rec Go.Proofs.YtilggpkmdmelmaaGreat.Geo Go.Proofs.YtilggpkmdmelmaaGreat.Span Go.Proofs.YtilggpkmdmelmaaGreat.Deal Go.Proofs.YtilggpkmdmelmaaGreat.Keep Go.Proofs.YtilggpkmdmelmaaGreat.Route Go.Proofs.YtilggpkmdmelmaaGreat.Plan
set_option linter.unusedVariables false
set_option linter.unusedSimpArgs false
theorem drewN_below {w w' : World} {d : Nat} (h : w' = w.drewN d) : Below w.heap.size w w' := by rw [h]; exact below_drewN (Below.refl _ _) _
theorem use_routes {A A' : Option Addr} {n c c' : Nat} {l m : List RM} {u : World} {B B' : Nat} (h : Plns u B A n l) (h' : Plns u B' A' n m) (he : l.map (·.rt) = m.map (·.rt)) :
    Calls Tryz.prog 13 #[.slice A n c, .slice A' n c'] u fun e u' => e = .returned (.bool true) ∧ Below u.heap.size u u' := by
  refine (routes_yes A A' n c c' l m B B' u h h' he).mono ?_
  rintro e u' ⟨rfl, d, hd⟩
  exact ⟨rfl, drewN_below hd⟩
end Go.Proofs.YtilggpkmdmelmaaGreat.Cert
