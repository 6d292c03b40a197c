import Derived.Test.YtkpnmpjnpcjohaaGreatCertRs
import Derived.Test.YtkpnmpjnpcjohaaGreatCertMaths
import Derived.Test.YtkpnmpjnpcjohaaGreatWordsRte
import Derived.Test.YtkpnmpjnpcjohaaGreatLibRows
import Derived.Test.YtkpnmpjnpcjohaaGreatPlanMaths
import Derived.Test.YtkpnmpjnpcjohaaGreatPlanRights
import Derived.Test.YtkpnmpjnpcjohaaGreatRegions
import Derived.Test.YtkpnmpjnpcjohaaGreatRouteRs
import Derived.Deep.RegionLaw
import Derived.Deep.DeepCutAuto
namespace Go.Proofs.YtkpnmpjnpcjohaaGreat.Cert
open Go.ChangeShapes Go.WideShapes Go.ChangeAt Go.RowKit Mem GeoMath FleetMath PlanMath CertMath Rec Geo Span Deal Route Plan
set_option linter.unusedVariables false
set_option linter.unusedSimpArgs false
namespace OneR
theorem below_drew {w u' : World} (hb : Below w.drew.heap.size w.drew u') : Below w.heap.size w u' := (Below.refl w.heap.size w).drew.trans hb
section
variable {o : Oper} {a : Act} {u : World} {x y : Operand}
theorem exec_and {b c r : Bool} (h : o.op = .pick x y (.const (.bool false))) (hp : a.eval x = .bool b) (hy : a.eval y = .bool c) (hr : (b && c) = r) : (execOp a.eval o).run Tryz.prog u = .ok (.value (.bool r)) u := by
  have hc : a.eval (.const (.bool false)) = .bool false := rfl
  obtain ⟨ρ, hρ⟩ : ∃ ρ, a.eval = ρ := ⟨_, rfl⟩
  rw [hρ] at hp hy hc ⊢
  unfold execOp
  rw [h, ← hr]
  cases b <;> simp [go_sem, hp, hy, hc]
theorem exec_andf (h : o.op = .pick x y (.const (.bool false))) (hp : a.eval x = .bool false) : (execOp a.eval o).run Tryz.prog u = .ok (.value (.bool false)) u := by
  have hc : a.eval (.const (.bool false)) = .bool false := rfl
  obtain ⟨ρ, hρ⟩ : ∃ ρ, a.eval = ρ := ⟨_, rfl⟩
  rw [hρ] at hp hc ⊢
  unfold execOp
  rw [h]
  simp [go_sem, hp, hc]
end
end OneR
end Go.Proofs.YtkpnmpjnpcjohaaGreat.Cert
