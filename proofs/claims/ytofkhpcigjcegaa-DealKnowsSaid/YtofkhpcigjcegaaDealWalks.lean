/-
  The walks of chapter 6's statements, over arguments as they come in.
-/
import Derived.Test.YtofkhpcigjcegaaDealKnows
import Derived.Test.YtofkhpcigjcegaaDealLater
import Derived.Test.YtofkhpcigjcegaaFrameWorld
namespace Go.Proofs.Ytofkhpcigjcegaa.Deal
open Go.ChangeShapes Go.WideShapes Go.ChangeAt Go.RowKit Go.Proofs.Ytofkhpcigjcegaa.Mem Go.Proofs.Ytofkhpcigjcegaa.FleetMath Go.Proofs.Ytofkhpcigjcegaa.Rec Go.Proofs.Ytofkhpcigjcegaa.Keep Go.Proofs.Ytofkhpcigjcegaa.Frames
set_option linter.unusedVariables false

theorem dealRuns_w (W : World) : Calls Try.prog 3 #[] W fun e w' => e = .returned (.bool true) ∧ Below W.heap.size W w' := runs_any W
theorem dealTells_w (x : Wd) (o : FleetMath.Ord) (d : Drv) (W : World) (hx : ∃ zs vs rs, WdOk W x zs vs rs) (ho : goodOrd o) (hd : goodDrv d) :
    Calls Try.prog 4 #[wdV x, ordV o, drvV d] W fun e w' => e = .returned (.bool true) ∧ Below W.heap.size W w' := by
  obtain ⟨zs, vs, rs, h⟩ := hx
  exact dealTells_walk x zs o d W h.ts
theorem dealKnows_w (x : Wd) (W : World) (hx : ∃ zs vs rs, WdOk W x zs vs rs) :
    Calls Try.prog 5 #[wdV x] W fun e w' => e = .returned (.bool true) ∧ Below W.heap.size W w' := by
  obtain ⟨zs, vs, rs, h⟩ := hx
  exact dealKnows_walk x zs rs W h.ts h.os h.osn
theorem dealMore_w (x : Wd) (o : FleetMath.Ord) (a b c : Int) (W : World) (hx : ∃ zs vs rs, WdOk W x zs vs rs) (ho : goodOrd o) (ha : wfI a) (hb : wfI b) (hc : wfI c) :
    Calls Try.prog 6 #[wdV x, ordV o, .int .i64 a, .int .i64 b, .int .i64 c] W fun e w' => e = .returned (.bool true) ∧ Below W.heap.size W w' := by
  obtain ⟨zs, vs, rs, h⟩ := hx
  exact dealMore_walk x zs vs o a b c W h.ts h.ds (by have := h.dsn; omega)
theorem dealLater_w (x : Wd) (o : FleetMath.Ord) (a b c : Int) (W : World) (hx : ∃ zs vs rs, WdOk W x zs vs rs) (ho : goodOrd o) (ha : wfI a) (hb : wfI b) (hc : wfI c) :
    Calls Try.prog 7 #[wdV x, ordV o, .int .i64 a, .int .i64 b, .int .i64 c] W fun e w' => e = .returned (.bool true) ∧ Below W.heap.size W w' := by
  obtain ⟨zs, vs, rs, h⟩ := hx
  exact dealLater_walk x zs vs o a b c W h.ts h.ds (by have := h.dsn; omega)
end Go.Proofs.Ytofkhpcigjcegaa.Deal
