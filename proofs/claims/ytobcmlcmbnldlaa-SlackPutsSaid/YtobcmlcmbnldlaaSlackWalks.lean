/-
  SlackRuns, SlackPuts and SlackTells, over arguments as they come in.
-/
import Derived.Test.YtobcmlcmbnldlaaSlackTells
import Derived.Test.YtobcmlcmbnldlaaFrames
namespace Go.Proofs.Ytobcmlcmbnldlaa.Slack
open Go.ChangeShapes Go.WideShapes Go.ChangeAt Go.RowKit Go.Proofs.Ytobcmlcmbnldlaa.Mem Go.Proofs.Ytobcmlcmbnldlaa.FleetMath Go.Proofs.Ytobcmlcmbnldlaa.Rec Go.Proofs.Ytobcmlcmbnldlaa.Keep Go.Proofs.Ytobcmlcmbnldlaa.Frames
set_option linter.unusedVariables false
theorem slackRuns_w (W : World) : Calls Try.prog 3 #[] W fun e w' => e = .returned (.bool true) ∧ Below W.heap.size W w' := (runs_any W).mono fun _ _ h => h
theorem slackPuts_w (a : Option Addr) (n c : Nat) (l : List Stp) (o i j : Int) (W : World) (hn : n ≤ c) (hr : c * 16 ≤ 140737488351232) (hl : Stps W W.heap.size a n l ∧ ∀ s ∈ l, wfI s.ord) (ho : wfI o) (hi : wfI i) (hj : wfI j) :
    Calls Try.prog 5 #[.slice a n c, .int .i64 o, .int .i64 i, .int .i64 j] W fun e w' => e = .returned (.bool true) ∧ Below W.heap.size W w' :=
  slackPuts_walk a n c l o i j W hl.1 hn (by omega)
theorem slackTells_w (x : Wd) (d : Drv) (a : Option Addr) (n c : Nat) (l : List Stp) (W : World) (hx : ∃ zs vs rs, WdOk W x zs vs rs) (hd : goodDrv d) (hn : n ≤ c) (hr : c * 16 ≤ 140737488351232) (hl : Stps W W.heap.size a n l ∧ ∀ s ∈ l, wfI s.ord) :
    Calls Try.prog 4 #[wdV x, drvV d, .slice a n c] W fun e w' => e = .returned (.bool true) ∧ Below W.heap.size W w' := by
  obtain ⟨zs, vs, rs, h⟩ := hx
  exact slackTells_walk x zs rs d a n c l W h.ts h.os hl.1 hn (by omega)
end Go.Proofs.Ytobcmlcmbnldlaa.Slack
