/-
  Where an order stands, as a value: chapter 9's words.
-/
import Derived.Test.YtbnhbbjmocclmaaPlanRWhere
namespace Go.Proofs.Ytbnhbbjmocclmaa.Plan
open Go.ChangeShapes Go.WideShapes Go.ChangeAt Go.RowKit Go.Proofs.Ytbnhbbjmocclmaa.Mem Go.Proofs.Ytbnhbbjmocclmaa.FleetMath Go.Proofs.Ytbnhbbjmocclmaa.PlanMath Go.Proofs.Ytbnhbbjmocclmaa.Rec
set_option linter.unusedVariables false

/-- a spot and whether it is one -/
def spotV : Option Spt → Value
  | none => .tuple #[.agg #[.int .i64 0, .int .i64 0, .int .i64 0, .int .i64 0], .bool false]
  | some s => .tuple #[.agg #[.int .i64 s.drv, .int .i64 s.pick, .int .i64 s.drop, .int .i64 0], .bool true]

/-- Find's state: its result lies in a new block -/
def FB (w : World) (wr : World) : Prop := Below w.heap.size w wr ∧ Blk wr w.heap.size 30 [.int .i64 0, .int .i64 0, .int .i64 0, .int .i64 0]
theorem FB.below {w wr w1 : World} (h : FB w wr) (hb : Below wr.heap.size wr w1) : FB w w1 := ⟨h.1.trans (hb.mono h.1.size), h.2.below hb h.2.lt⟩
theorem ends_spot {w w' : World} {s t : Option Spt} {v : Value} (h : s = t) (hv : v = spotV s) (hb : Below w.heap.size w w') : .returned v = Ending.returned (spotV t) ∧ Below w.heap.size w w' := ⟨by rw [hv, h], hb⟩

end Go.Proofs.Ytbnhbbjmocclmaa.Plan
