/-
  The program's span.Right, walked (alone: later seats hold it without the rest).
-/
import Derived.Test.YtjkahookgoecpaaSpanRRight
import Derived.Lib.MinMax
namespace Go.Proofs.Ytjkahookgoecpaa.Span
open Go.ChangeShapes Go.WideShapes Go.ChangeAt Go.RowKit Go.Proofs.Ytjkahookgoecpaa.Mem Go.Proofs.Ytjkahookgoecpaa.FleetMath Go.Proofs.Ytjkahookgoecpaa.Rec

theorem gright_any (x : Win) (w : World) : Calls Try.prog 44 #[winV x] w (Gives w (.bool (right x))) := by
  obtain ⟨a, b⟩ := x
  go_enter Try.func44, Try.ntmps44
  go_wp2
  all_goals
    go_ret
    refine gives_bool ?_ ((Below.refl _ _).alloc (Nat.le_refl _) _)
    first
      | (simp_all [right]; done)
      | (simp_all [right]; omega)

theorem pright_val (x : Win) (r : Bool) (w : World) (h : right x = r) : Calls Try.prog 44 #[winV x] w (Gives w (.bool r)) := by
  rw [← h]; exact gright_any x w

#print axioms gright_any
end Go.Proofs.Ytjkahookgoecpaa.Span
