/-
  A list of stops of the call's own, as the walks of Put share it.
-/
import Derived.Test.YtjklpdeeohhhnaaWords
import Derived.Test.YtjklpdeeohhhnaaLibRows
import Derived.Test.YtjklpdeeohhhnaaMaths
import Derived.Deep.DeepCutAuto
namespace Go.Proofs.Ytjklpdeeohhhnaa.Slack
open Go.ChangeShapes Go.WideShapes Go.ChangeAt Go.RowKit Go.Proofs.Ytjklpdeeohhhnaa.Mem Go.Proofs.Ytjklpdeeohhhnaa.FleetMath Go.Proofs.Ytjklpdeeohhhnaa.Rec
set_option linter.unusedVariables false

theorem putTo_len (l : List Stp) (o : Int) (i j k : Nat) (hij : i ≤ j) : (putTo l o i j k).length ≤ k + 2 := by
  unfold putTo
  split
  · simp only [List.length_take]; omega
  · split
    · simp only [List.length_append, List.length_cons, List.length_take, List.length_drop]; omega
    · simp only [List.length_append, List.length_cons, List.length_take, List.length_drop]; omega
theorem stpsV_snoc (p : List Stp) (x : Stp) : stpsV (p ++ [x]) = stpsV p ++ [.int .i64 x.ord, .bool x.drop] := by rw [stpsV_append]; rfl
theorem stp_one (a : Int) (b : Bool) : ∀ v ∈ [Value.int .i64 a, .bool b], v.oneCell' = true := by
  intro v hv
  simp only [List.mem_cons, List.not_mem_nil, or_false] at hv
  rcases hv with rfl | rfl <;> rfl
/-- a list of stops of the call's own -/
structure PL (w : World) (v : Value) (p : List Stp) (u : World) : Prop where
  old : Below w.heap.size w u
  own : OwnK u w.heap.size 36 2 v p.length (stpsV p)
section
variable {w u u' : World} {v v' : Value} {p : List Stp}
theorem PL.alloc (h : PL w v p u) (o : Obj) : PL w v p (u.alloc o) := ⟨h.old.alloc h.old.size o, h.own.alloc o⟩
theorem PL.snoc (x : Stp) (ho : OwnK u' w.heap.size 36 2 v' (p.length + 1) (stpsV p ++ [.int .i64 x.ord, .bool x.drop])) (hb : Below w.heap.size w u') : PL w v' (p ++ [x]) u' :=
  ⟨hb, by rw [stpsV_snoc, List.length_append]; exact ho⟩
end

end Go.Proofs.Ytjklpdeeohhhnaa.Slack
