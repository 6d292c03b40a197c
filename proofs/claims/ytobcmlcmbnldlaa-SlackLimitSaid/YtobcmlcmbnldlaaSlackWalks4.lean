/-
  SlackLimit, over arguments as they come in.
-/
import Derived.Test.YtobcmlcmbnldlaaSlackLimit
import Derived.Test.YtobcmlcmbnldlaaFrames
namespace Go.Proofs.Ytobcmlcmbnldlaa.Slack
open Go.ChangeShapes Go.WideShapes Go.ChangeAt Go.RowKit Go.Proofs.Ytobcmlcmbnldlaa.Mem Go.Proofs.Ytobcmlcmbnldlaa.FleetMath Go.Proofs.Ytobcmlcmbnldlaa.Rec Go.Proofs.Ytobcmlcmbnldlaa.Keep Go.Proofs.Ytobcmlcmbnldlaa.Frames
set_option linter.unusedVariables false
theorem slackLimit_w (x : Wd) (d : Drv) (a : Option Addr) (n c : Nat) (l : List Stp) (p q : Int) (W : World) (hx : ∃ zs vs rs, WdOk W x zs vs rs) (hd : goodDrv d) (hn : n ≤ c) (hr : c * 16 ≤ 140737488351232) (hl : Stps W W.heap.size a n l ∧ ∀ s ∈ l, wfI s.ord) (hp : (Lit.int .i64 p).wf = true) (hq : (Lit.int .i64 q).wf = true) :
    Calls Try.prog 8 #[wdV x, drvV d, .slice a n c, .int .i64 p, .int .i64 q] W fun e w' => e = .returned (.bool true) ∧ Below W.heap.size W w' := by
  obtain ⟨zs, vs, rs, h⟩ := hx
  exact slackLimit_walk x zs rs d a n c l p q W h.ts h.os hl.1 hn h.osn
end Go.Proofs.Ytobcmlcmbnldlaa.Slack
