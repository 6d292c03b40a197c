import Derived.Test.YtilggpkmdmelmaaGreatCertRs
import Derived.Test.YtilggpkmdmelmaaGreatCertMaths
import Derived.Test.YtilggpkmdmelmaaGreatWordsRte
import Derived.Test.YtilggpkmdmelmaaGreatLibRows
import Derived.Test.YtilggpkmdmelmaaGreatPlanMaths
import Derived.Test.YtilggpkmdmelmaaGreatPlanRights
import Derived.Test.YtilggpkmdmelmaaGreatRegions
import Derived.Test.YtilggpkmdmelmaaGreatRouteRs
import Derived.Deep.RegionLaw
import Derived.Deep.DeepCutAuto
namespace Go.Proofs.YtilggpkmdmelmaaGreat.Cert
open Go.ChangeShapes Go.WideShapes Go.ChangeAt Go.RowKit Go.Proofs.YtilggpkmdmelmaaGreat.Mem Go.Proofs.YtilggpkmdmelmaaGreat.GeoMath Go.Proofs.YtilggpkmdmelmaaGreat.FleetMath Go.Proofs.YtilggpkmdmelmaaGreat.PlanMath Go.Proofs.YtilggpkmdmelmaaGreat.CertMath Go.Proofs.YtilggpkmdmelmaaGreat.Rec Go.Proofs.YtilggpkmdmelmaaGreat.Geo Go.Proofs.YtilggpkmdmelmaaGreat.Span Go.Proofs.YtilggpkmdmelmaaGreat.Deal Go.Proofs.YtilggpkmdmelmaaGreat.Route Go.Proofs.YtilggpkmdmelmaaGreat.Plan
set_option linter.unusedVariables false
set_option linter.unusedSimpArgs false
namespace OneR
theorem below_drew {w u' : World} (hb : Below w.drew.heap.size w.drew u') : Below w.heap.size w u' := (Below.refl w.heap.size w).drew.trans hb
theorem cell_apart (g : Nat) : ∀ (u : World) (i j : Nat) (v : Value), i ≠ j → (u.setCell ⟨g, i, none⟩ v).cell? ⟨g, j, none⟩ = u.cell? ⟨g, j, none⟩ := fun u i j v h => World.cell?_setCell_other u _ _ v fun e => h (by injection e)
theorem frozen_set : ∀ (u : World) (a b : Addr) (v : Value), (u.setCell a v).frozen? b = u.frozen? b := fun u a b v => by simp
section
variable {o : Oper} {a : Act} {u : World} {x y : Operand}
end
structure OS (w : World) (d : Drv) (u : World) : Prop where
  old : Below w.heap.size w u
  drv : DBox u w.heap.size d
theorem OS.next {w u u' : World} {d : Drv} (h : OS w d u) (hb : Below u.heap.size u u') : OS w d u' := ⟨h.old.trans (hb.mono h.old.size), h.drv.below hb⟩
theorem OS.drewN {w u : World} {d : Drv} (h : OS w d u) (k : Nat) : OS w d (u.drewN k) := h.next (below_drewN (Below.refl _ _) k)
theorem OS.start (w : World) (d : Drv) : OS w d (w.alloc (.cells #[.int .i64 d.id, .int .i64 d.room, .int .i64 d.home, .int .i64 d.win.fr, .int .i64 d.win.to, .bool d.retired] 33)) := ⟨(Below.refl _ _).alloc (Nat.le_refl _) _, Blk.new w _ _⟩
end OneR
end Go.Proofs.YtilggpkmdmelmaaGreat.Cert
