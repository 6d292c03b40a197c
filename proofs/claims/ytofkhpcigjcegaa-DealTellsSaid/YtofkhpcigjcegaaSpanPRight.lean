/-
  The program's span.Right, walked (alone: later seats hold it without the rest).
-/
import Derived.Test.YtofkhpcigjcegaaSpanRRight
import Derived.Lib.MinMax
namespace Go.Proofs.Ytofkhpcigjcegaa.Span
open Go.ChangeShapes Go.WideShapes Go.ChangeAt Go.RowKit Go.Proofs.Ytofkhpcigjcegaa.Mem Go.Proofs.Ytofkhpcigjcegaa.FleetMath Go.Proofs.Ytofkhpcigjcegaa.Rec

theorem gright_any (x : Win) (w : World) : Calls Try.prog 27 #[winV x] w (Gives w (.bool (right x))) := by
  obtain ⟨a, b⟩ := x
  go_enter Try.func27, Try.ntmps27
  go_wp2
  all_goals
    go_ret
    refine gives_bool ?_ ((Below.refl _ _).alloc (Nat.le_refl _) _)
    first
      | (simp_all [right]; done)
      | (simp_all [right]; omega)

theorem pright_val (x : Win) (r : Bool) (w : World) (h : right x = r) : Calls Try.prog 27 #[winV x] w (Gives w (.bool r)) := by
  rw [← h]; exact gright_any x w

#print axioms gright_any
end Go.Proofs.Ytofkhpcigjcegaa.Span
