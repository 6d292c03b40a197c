/-
  RepairMath, RepairMath3, RepairMath4: one text.
-/
import Derived.Test.YtkpnmpjnpcjohaaGreatInsertMaths
import Derived.Test.YtkpnmpjnpcjohaaGreatAuditMaths
import Derived.Test.YtkpnmpjnpcjohaaGreatPlanMaths
import Derived.Test.YtkpnmpjnpcjohaaGreatInsertRs
namespace Go.Proofs.YtkpnmpjnpcjohaaGreat.RepairMath
open GeoMath FleetMath PlanMath CertMath AuditMath InsertMath
set_option linter.unusedVariables false
structure PSt where
  out : List Rte
  total : Int
  steps : Nat
def othersM (os : List FleetMath.Ord) (i : Int) : List FleetMath.Ord := os.filter fun o => !decide (o.id = i)
section
variable {m : Option Mp} {ds : List Drv} {os : List FleetMath.Ord} {p q : List Rte} {b c : Nat} {st : PSt} {i : Int}
theorem cheap_steps {o : FleetMath.Ord} {b : Int} {s : Sp4} {n e : Int} (h : cheapM m ds os p o b = (s, n, e)) (hb : 0 ≤ b) : 0 ≤ n ∧ n ≤ b := by
  unfold cheapM at h
  split at h
  · injection h with _ h; injection h with h _; omega
  · have hl := goOn_le (b := b.toNat) (s := (none, 0)) (Nat.zero_le _) (p.flatMap (candD m ds os o))
    unfold toldM at h
    split at h
    all_goals
      injection h with _ h
      injection h with h _
      omega
end
end Go.Proofs.YtkpnmpjnpcjohaaGreat.RepairMath

namespace Go.Proofs.YtkpnmpjnpcjohaaGreat.RepairMath
open GeoMath FleetMath PlanMath CertMath AuditMath InsertMath
set_option linter.unusedVariables false
instance : DecidableEq Rte := fun a b => decidable_of_iff (a.drv = b.drv ∧ a.served = b.served ∧ a.stops = b.stops)
  ⟨fun h => by cases a; cases b; simp only at h; obtain ⟨rfl, rfl, rfl⟩ := h; rfl, fun h => by subst h; exact ⟨rfl, rfl, rfl⟩⟩
end Go.Proofs.YtkpnmpjnpcjohaaGreat.RepairMath

namespace Go.Proofs.YtkpnmpjnpcjohaaGreat.RepairMath
open GeoMath FleetMath PlanMath CertMath AuditMath InsertMath Go.Proofs.YtkpnmpjnpcjohaaGreat.Insert
set_option linter.unusedVariables false
section
variable {m : Option Mp} {ds : List Drv} {os : List FleetMath.Ord} {p q : List Rte} {i t : Int}
theorem known_dist (h : known m os = true) : Dist os := by
  simp only [known, decide_eq_true_eq] at h
  exact h.2.2
end
end Go.Proofs.YtkpnmpjnpcjohaaGreat.RepairMath
