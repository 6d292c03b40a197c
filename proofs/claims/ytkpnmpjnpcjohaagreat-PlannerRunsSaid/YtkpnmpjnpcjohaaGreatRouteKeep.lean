import Derived.Test.YtkpnmpjnpcjohaaGreatRouteDrivesP
import Derived.Test.YtkpnmpjnpcjohaaGreatKeepMaps
import Derived.Test.YtkpnmpjnpcjohaaGreatLibRows
import Derived.Deep.DeepCutAuto
namespace Go.Proofs.YtkpnmpjnpcjohaaGreat.Route
open Go.ChangeShapes Go.WideShapes Go.ChangeAt Go.RowKit Mem GeoMath FleetMath Rec Geo Span Deal Keep
set_option linter.unusedVariables false
def FBox (u : World) (g k : Nat) (e : Int) : Prop := Blk u g 108 [.int .i64 k, .int .i64 e]
theorem FBox.cells {u : World} {g k : Nat} {e : Int} (h : FBox u g k e) : u.cell? ⟨g, 0, none⟩ = some (.int .i64 k) ∧ u.cell? ⟨g, 1, none⟩ = some (.int .i64 e) := ⟨Blk.cell h rfl, Blk.cell h rfl⟩
theorem fgood_any (k : Nat) (e : Int) (w : World) : Calls Tryz.prog 51 #[faultV k e] w (Gives w (.bool (e == 0))) := by
  go_enter Tryz.func51, Tryz.ntmps51
  go_wp2
  go_ret
  exact ⟨rfl, (Below.refl _ _).alloc (Nat.le_refl _) _⟩
abbrev ordL (o : FleetMath.Ord) : List Value := [.int .i64 o.id, .int .i64 o.size, .int .i64 o.pick.place, .int .i64 o.pick.win.fr, .int .i64 o.pick.win.to, .int .i64 o.pick.serv, .int .i64 o.drop.place, .int .i64 o.drop.win.fr, .int .i64 o.drop.win.to, .int .i64 o.drop.serv]
theorem ordsV_single (o : FleetMath.Ord) : ordsV [o] = ordL o := rfl
theorem ordL_one (o : FleetMath.Ord) : ∀ v ∈ ordL o, v.oneCell' = true := by
  have := ordsV_one [o]
  rwa [ordsV_single] at this
end Go.Proofs.YtkpnmpjnpcjohaaGreat.Route
