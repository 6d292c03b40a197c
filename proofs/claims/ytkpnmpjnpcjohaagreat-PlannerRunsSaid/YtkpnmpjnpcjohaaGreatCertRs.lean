/-
  CertRDrv, CertMk: one text.
-/
import Derived.Test.YtkpnmpjnpcjohaaGreatCertMaths
import Derived.Test.YtkpnmpjnpcjohaaGreatPlanMaths
import Derived.Test.YtkpnmpjnpcjohaaGreatPlanSmalls
import Derived.Test.YtkpnmpjnpcjohaaGreatWordsRte
import Derived.Test.YtkpnmpjnpcjohaaGreatLibRows
import Derived.Test.YtkpnmpjnpcjohaaGreatRegions
import Derived.Deep.Cut
import Derived.Deep.CutRange
import Derived.Test.YtkpnmpjnpcjohaaGreatRouteRs
import Derived.Test.YtkpnmpjnpcjohaaGreatCertNews
import Derived.Test.YtkpnmpjnpcjohaaGreatRouteKeep
namespace Go.Proofs.YtkpnmpjnpcjohaaGreat.Cert
open Go.ChangeShapes Go.WideShapes Go.ChangeAt Go.RowKit Mem GeoMath FleetMath PlanMath CertMath Rec Geo Span Deal Route Plan
set_option linter.unusedVariables false
set_option linter.unusedSimpArgs false
def noDrv : Drv := ⟨0, 0, 0, ⟨0, 0⟩, false⟩
def drvOV : Option Drv → Value
  | none => .tuple #[drvV noDrv, .bool false]
  | some d => .tuple #[drvV d, .bool true]
end Go.Proofs.YtkpnmpjnpcjohaaGreat.Cert

namespace Go.Proofs.YtkpnmpjnpcjohaaGreat.Cert
open Go.ChangeShapes Go.WideShapes Go.ChangeAt Go.RowKit Mem GeoMath FleetMath PlanMath CertMath Rec Geo Span Deal Route Plan
set_option linter.unusedVariables false
set_option linter.unusedSimpArgs false
structure Made (w w' : World) (v : Value) (l : List CM) (c : List (List Vis)) : Prop where
  new : NewC w w' v l
  vss : l.map (·.vs) = c
  few : ∀ r ∈ l, r.n * 48 ≤ 140737488351232
def MakeOk (w : World) (r : List (List Vis) × Nat × Int) (e : Ending) (w' : World) : Prop :=
  ∃ v l, e = .returned (.tuple #[v, faultV r.2.1 r.2.2]) ∧ Made w w' v l r.1
theorem make_fault {w w' : World} {k : Nat} {e : Int} {r : List (List Vis) × Nat × Int} (h : r = ([], k, e)) (hb : Below w.heap.size w w') : MakeOk w r (.returned (.tuple #[.slice none 0 0, faultV k e])) w' := by
  subst h
  exact ⟨_, [], rfl, ⟨⟨hb, OwnK.nil _ _ _ _, (fun r h => by cases h), List.Pairwise.nil⟩, rfl, fun r h => by cases h⟩⟩
abbrev FX (w : World) : World := w.alloc (.cells #[.int .i64 0, .int .i64 0] 108)
section
variable {w wr w' : World} {p : List RM} {v v' : Value} {l : List CM} {k : Nat}
theorem FX.below (w : World) : Below w.heap.size w (FX w) := (Below.refl _ _).alloc (Nat.le_refl _) _
theorem FX.size (w : World) : (FX w).heap.size = w.heap.size + 1 := by simp
end
end Go.Proofs.YtkpnmpjnpcjohaaGreat.Cert
