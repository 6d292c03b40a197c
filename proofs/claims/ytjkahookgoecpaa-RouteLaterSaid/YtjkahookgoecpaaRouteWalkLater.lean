/-
  RouteLater and the runs of chapter 7, over arguments as they come in.
-/
import Derived.Test.YtjkahookgoecpaaRouteLater
import Derived.Test.YtjkahookgoecpaaFrameStops
namespace Go.Proofs.Ytjkahookgoecpaa.Route
open Go.ChangeShapes Go.WideShapes Go.ChangeAt Go.RowKit Go.Proofs.Ytjkahookgoecpaa.Mem Go.Proofs.Ytjkahookgoecpaa.FleetMath Go.Proofs.Ytjkahookgoecpaa.Rec Go.Proofs.Ytjkahookgoecpaa.Keep Go.Proofs.Ytjkahookgoecpaa.Frames
set_option linter.unusedVariables false
theorem routeRuns_w (W : World) : Calls Try.prog 3 #[] W fun e w' => e = .returned (.bool true) ∧ Below W.heap.size W w' := runs_any W
theorem routeLater_w (x : Wd) (d : Drv) (a : Option Addr) (n c : Nat) (l : List Stp) (later : Int) (W : World) (hx : ∃ zs vs rs, WdOk W x zs vs rs) (hd : goodDrv d) (hn : n ≤ c) (hr : c * 16 ≤ 140737488351232) (hl : Stps W W.heap.size a n l ∧ ∀ s ∈ l, wfI s.ord) (hw : wfI later) :
    Calls Try.prog 7 #[wdV x, drvV d, .slice a n c, .int .i64 later] W fun e w' => e = .returned (.bool true) ∧ Below W.heap.size W w' := by
  obtain ⟨zs, vs, rs, h⟩ := hx
  exact routeLater_walk x zs rs d a n c l later W h.ts h.os hl.1 hn
end Go.Proofs.Ytjkahookgoecpaa.Route
