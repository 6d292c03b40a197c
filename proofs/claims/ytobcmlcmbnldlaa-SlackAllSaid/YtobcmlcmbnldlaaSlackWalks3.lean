/-
  SlackAll, over arguments as they come in.
-/
import Derived.Test.YtobcmlcmbnldlaaSlackAll
import Derived.Test.YtobcmlcmbnldlaaFrames
namespace Go.Proofs.Ytobcmlcmbnldlaa.Slack
open Go.ChangeShapes Go.WideShapes Go.ChangeAt Go.RowKit Go.Proofs.Ytobcmlcmbnldlaa.Mem Go.Proofs.Ytobcmlcmbnldlaa.FleetMath Go.Proofs.Ytobcmlcmbnldlaa.Rec Go.Proofs.Ytobcmlcmbnldlaa.Keep Go.Proofs.Ytobcmlcmbnldlaa.Frames
set_option linter.unusedVariables false
theorem slackAll_w (x : Wd) (d : Drv) (a : Option Addr) (n c : Nat) (l : List Stp) (o : FleetMath.Ord) (W : World) (hx : ∃ zs vs rs, WdOk W x zs vs rs) (hd : goodDrv d) (hn : n ≤ c) (hr : c * 16 ≤ 140737488351232) (hl : Stps W W.heap.size a n l ∧ ∀ s ∈ l, wfI s.ord) (ho : goodOrd o) :
    Calls Try.prog 7 #[wdV x, drvV d, .slice a n c, ordV o] W fun e w' => e = .returned (.bool true) ∧ Below W.heap.size W w' := by
  obtain ⟨zs, vs, rs, h⟩ := hx
  exact slackAll_walk x zs rs d a n c l o W h.ts h.os hl.1 hn h.osn (by omega)
end Go.Proofs.Ytobcmlcmbnldlaa.Slack
