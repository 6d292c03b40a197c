/-
  SlackFits, over arguments as they come in.
-/
import Derived.Test.YtobcmlcmbnldlaaSlackFits
import Derived.Test.YtobcmlcmbnldlaaFrames
namespace Go.Proofs.Ytobcmlcmbnldlaa.Slack
open Go.ChangeShapes Go.WideShapes Go.ChangeAt Go.RowKit Go.Proofs.Ytobcmlcmbnldlaa.Mem Go.Proofs.Ytobcmlcmbnldlaa.FleetMath Go.Proofs.Ytobcmlcmbnldlaa.Rec Go.Proofs.Ytobcmlcmbnldlaa.Keep Go.Proofs.Ytobcmlcmbnldlaa.Frames
set_option linter.unusedVariables false
theorem slackFits_w (x : Wd) (d : Drv) (a : Option Addr) (n c : Nat) (l : List Stp) (p : Int × Int) (o : FleetMath.Ord) (W : World) (hx : ∃ zs vs rs, WdOk W x zs vs rs) (hd : goodDrv d) (hn : n ≤ c) (hr : c * 16 ≤ 140737488351232) (hl : Stps W W.heap.size a n l ∧ ∀ s ∈ l, wfI s.ord) (hp : wfI p.1 ∧ wfI p.2) (ho : goodOrd o) :
    Calls Try.prog 6 #[wdV x, drvV d, .slice a n c, .agg #[.int .i64 p.1, .int .i64 p.2], ordV o] W fun e w' => e = .returned (.bool true) ∧ Below W.heap.size W w' := by
  obtain ⟨zs, vs, rs, h⟩ := hx
  exact slackFits_walk x zs rs d a n c l p.1 p.2 o W h.ts h.os hl.1 hn h.osn (by omega)
end Go.Proofs.Ytobcmlcmbnldlaa.Slack
