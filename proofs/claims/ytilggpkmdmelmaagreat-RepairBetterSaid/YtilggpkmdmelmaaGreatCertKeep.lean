import Derived.Test.YtilggpkmdmelmaaGreatKeepMaps
import Derived.Test.YtilggpkmdmelmaaGreatCertNews
import Derived.Test.YtilggpkmdmelmaaGreatPlanKs
import Derived.Test.YtilggpkmdmelmaaGreatRouteKeep
import Derived.Test.YtilggpkmdmelmaaGreatCertMaths
import Derived.Test.YtilggpkmdmelmaaGreatWords
namespace Go.Proofs.YtilggpkmdmelmaaGreat.Cert
open Go.ChangeShapes Go.WideShapes Go.ChangeAt Go.RowKit Go.Proofs.YtilggpkmdmelmaaGreat.Mem Go.Proofs.YtilggpkmdmelmaaGreat.GeoMath Go.Proofs.YtilggpkmdmelmaaGreat.FleetMath Go.Proofs.YtilggpkmdmelmaaGreat.PlanMath Go.Proofs.YtilggpkmdmelmaaGreat.CertMath Go.Proofs.YtilggpkmdmelmaaGreat.Rec Go.Proofs.YtilggpkmdmelmaaGreat.Geo Go.Proofs.YtilggpkmdmelmaaGreat.Deal Go.Proofs.YtilggpkmdmelmaaGreat.Keep Go.Proofs.YtilggpkmdmelmaaGreat.Plan
set_option linter.unusedVariables false
structure CR (W : World) (q r : Option Addr) (m : Option Mp) (x : Wd) (ds : List Drv) (os : List FleetMath.Ord) (ps : List RM) (u : World) : Prop where
  old : Below W.heap.size W u
  map : MapP u 74 W.heap.size (.pointer q) m
  rmap : MapP u 110 W.heap.size (.pointer r) m
  wd : WBox u W.heap.size x
  ds0 : Drvs W W.heap.size x.ds.a x.ds.n ds
  os0 : Ords W W.heap.size x.os.a x.os.n os
  pl0 : Plns W W.heap.size x.pl.a x.pl.n ps
section
variable {W u u' : World} {q r : Option Addr} {m : Option Mp} {x : Wd} {ds : List Drv} {os : List FleetMath.Ord} {ps : List RM}
theorem CR.below (h : CR W q r m x ds os ps u) (hb : Below u.heap.size u u') : CR W q r m x ds os ps u' :=
  ⟨h.old.trans (hb.mono h.old.size), h.map.keep hb, h.rmap.keep hb, h.wd.below hb, h.ds0, h.os0, h.pl0⟩
theorem CR.drvs (h : CR W q r m x ds os ps u) : Drvs u u.heap.size x.ds.a x.ds.n ds := Recs.more (Recs.keep h.ds0 h.old) h.old.size
theorem CR.ords (h : CR W q r m x ds os ps u) : Ords u u.heap.size x.os.a x.os.n os := Recs.more (Recs.keep h.os0 h.old) h.old.size
theorem CR.plns (h : CR W q r m x ds os ps u) : Plns u u.heap.size x.pl.a x.pl.n ps := (h.pl0.keep h.old).more h.old.size
theorem CR.start {n0 : Nat} {ts : List Int} {e : Ending} {w0 w1 : World} (h0 : Below W.heap.size W w0) (hw : WBox w0 W.heap.size x) (hd : Drvs W W.heap.size x.ds.a x.ds.n ds) (ho : Ords W W.heap.size x.os.a x.os.n os) (hp : Plns W W.heap.size x.pl.a x.pl.n ps)
    (hm : mapOf x.n ts = m) (h : MapsOk w0 (mapOf x.n ts) e w1) : ∃ q r, e = .returned (.tuple #[.pointer q, .pointer r, .bool true]) ∧ CR W q r m x ds os ps w1 := by
  obtain ⟨hb, q, r, rfl, hq, hr⟩ := h
  rw [hm] at hq hr
  exact ⟨q, r, rfl, h0.trans (hb.mono h0.size), hq.lower h0.size, hr.lower h0.size, hw.below hb, hd, ho, hp⟩
end
end Go.Proofs.YtilggpkmdmelmaaGreat.Cert
