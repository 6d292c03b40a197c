/-
  RouteEarly, over arguments as they come in.
-/
import Derived.Test.YtjkahookgoecpaaRouteEarly
import Derived.Test.YtjkahookgoecpaaFrames
namespace Go.Proofs.Ytjkahookgoecpaa.Route
open Go.ChangeShapes Go.WideShapes Go.ChangeAt Go.RowKit Go.Proofs.Ytjkahookgoecpaa.Mem Go.Proofs.Ytjkahookgoecpaa.FleetMath Go.Proofs.Ytjkahookgoecpaa.Rec Go.Proofs.Ytjkahookgoecpaa.Keep Go.Proofs.Ytjkahookgoecpaa.Frames
set_option linter.unusedVariables false
theorem routeEarly_w (x : Wd) (d : Drv) (a : Option Addr) (n c : Nat) (l : List Stp) (a2 : Option Addr) (n2 c2 : Nat) (l2 : List Int) (W : World) (hx : ∃ zs vs rs, WdOk W x zs vs rs) (hd : goodDrv d) (hn : n ≤ c) (hr : c * 16 ≤ 140737488351232) (hl : Stps W W.heap.size a n l ∧ ∀ s ∈ l, wfI s.ord) (hn2 : n2 ≤ c2) (hr2 : c2 * 8 ≤ 140737488351232) (hl2 : l2.length = n2 ∧ Ints W W.heap.size a2 n2 l2 ∧ ∀ z ∈ l2, (Lit.int .i64 z).wf = true) :
    Calls Try.prog 6 #[wdV x, drvV d, .slice a n c, .slice a2 n2 c2] W fun e w' => e = .returned (.bool true) ∧ Below W.heap.size W w' := by
  obtain ⟨zs, vs, rs, h⟩ := hx
  exact routeEarly_walk x zs rs d a n c l a2 n2 c2 l2 W h.ts h.os hl.1 hn hl2.2.1
end Go.Proofs.Ytjkahookgoecpaa.Route
