/-
  RouteVisits, over arguments as they come in.
-/
import Derived.Test.YtjkahookgoecpaaRouteVisits
import Derived.Test.YtjkahookgoecpaaFrames
namespace Go.Proofs.Ytjkahookgoecpaa.Route
open Go.ChangeShapes Go.WideShapes Go.ChangeAt Go.RowKit Go.Proofs.Ytjkahookgoecpaa.Mem Go.Proofs.Ytjkahookgoecpaa.FleetMath Go.Proofs.Ytjkahookgoecpaa.Rec Go.Proofs.Ytjkahookgoecpaa.Keep Go.Proofs.Ytjkahookgoecpaa.Frames
set_option linter.unusedVariables false
theorem routeVisits_w (x : Wd) (d : Drv) (a : Option Addr) (n c : Nat) (l : List Stp) (W : World) (hx : ∃ zs vs rs, WdOk W x zs vs rs) (hd : goodDrv d) (hn : n ≤ c) (hr : c * 16 ≤ 140737488351232) (hl : Stps W W.heap.size a n l ∧ ∀ s ∈ l, wfI s.ord) :
    Calls Try.prog 5 #[wdV x, drvV d, .slice a n c] W fun e w' => e = .returned (.bool true) ∧ Below W.heap.size W w' := by
  obtain ⟨zs, vs, rs, h⟩ := hx
  exact routeVisits_walk x zs rs d a n c l W h.ts h.os hl.1 hn
end Go.Proofs.Ytjkahookgoecpaa.Route
