import Derived.Test.YtilggpkmdmelmaaGreatRepairDs
import Derived.Test.YtilggpkmdmelmaaGreatRepairRTotal
import Derived.Test.YtilggpkmdmelmaaGreatFrameWorldP
namespace Go.Proofs.YtilggpkmdmelmaaGreat.RepairW
open Go.ChangeShapes Go.WideShapes Go.ChangeAt Go.RowKit Go.Proofs.YtilggpkmdmelmaaGreat.Mem Go.Proofs.YtilggpkmdmelmaaGreat.GeoMath Go.Proofs.YtilggpkmdmelmaaGreat.FleetMath Go.Proofs.YtilggpkmdmelmaaGreat.PlanMath Go.Proofs.YtilggpkmdmelmaaGreat.CertMath Go.Proofs.YtilggpkmdmelmaaGreat.AuditMath Go.Proofs.YtilggpkmdmelmaaGreat.InsertMath Go.Proofs.YtilggpkmdmelmaaGreat.RepairMath Go.Proofs.YtilggpkmdmelmaaGreat.Rec Go.Proofs.YtilggpkmdmelmaaGreat.Geo Go.Proofs.YtilggpkmdmelmaaGreat.Span Go.Proofs.YtilggpkmdmelmaaGreat.Deal Go.Proofs.YtilggpkmdmelmaaGreat.Keep Go.Proofs.YtilggpkmdmelmaaGreat.Route Go.Proofs.YtilggpkmdmelmaaGreat.Plan Go.Proofs.YtilggpkmdmelmaaGreat.Cert
set_option linter.unusedVariables false
set_option linter.unusedSimpArgs false
set_option maxRecDepth 100000 in
set_option maxHeartbeats 8000000 in
theorem repairTells_walk (x : Wd) (ts : List Int) (ds : List Drv) (os : List FleetMath.Ord) (ps : List RM) (W : World) (hts : Ints W W.heap.size x.ts.a x.ts.n ts) (hds : Drvs W W.heap.size x.ds.a x.ds.n ds) (hos : Ords W W.heap.size x.os.a x.os.n os) (hps : Plns W W.heap.size x.pl.a x.pl.n ps) :
    Calls Tryz.prog 4 #[wdV x] W fun e w' => e = .returned (.bool true) ∧ Below W.heap.size W w' := by
  have HTS := Lib.hid hts
  have HDS := Lib.hid hds
  have HOS := Lib.hid hos
  have HPS := Lib.hid hps
  clear hts hds hos hps
  obtain ⟨m, hm⟩ : ∃ m, mapOf x.n ts = m := ⟨_, rfl⟩
  have HM := Lib.hid hm
  clear hm
  obtain ⟨tv, tb, htv, -, -⟩ := Insert.opt_form (totalM m ds os (ps.map (·.rt)))
  have HV := Lib.hid htv
  clear htv
  have HB0 : Hid (Below W.heap.size W (W.alloc (.cells #[.int .i64 x.n, x.ts.v, x.ds.v, x.os.v, x.pl.v] 54))) := (Below.refl _ _).alloc (Nat.le_refl _) _
  have HW0 := Lib.hid (WBox.new W x)
  go_enter Tryz.func4, Tryz.ntmps4
  go_wp2_with fail
  refine (kmaps_any x ts _ (by exact Reads.more (Reads.keep HTS.out HB0.out) HB0.out.size)).mono ?_
  intro e w1 hmo
  obtain ⟨q, r, rfl, hcr⟩ := CR.start (n0 := 0) HB0.out HW0.out HDS.out HOS.out HPS.out HM.out hmo
  have C1 := Lib.hid hcr
  clear hmo hcr HB0 HW0
  obtain ⟨x0, x1, x2, x3, x4⟩ := C1.out.wd.cells
  go_wp2_with fail
  refine (use_total C1.out rfl).mono ?_
  rintro e w2 ⟨rfl, hb2⟩
  rw [HV.out]
  have C2 := Lib.hid (C1.out.below hb2)
  clear hb2 C1 x0 x1 x2 x3 x4
  obtain ⟨x0, x1, x2, x3, x4⟩ := C2.out.wd.cells
  go_wp2_with fail
  refine (rtotal_any W.heap.size (.pointer r) m x.ds.a x.ds.n x.ds.c ds x.os.a x.os.n x.os.c os x.pl.a x.pl.n x.pl.c ps _ (by exact C2.out.rmap) (by exact C2.out.drvs) (by exact C2.out.ords) (by exact C2.out.plns)).mono ?_
  rintro e w3 ⟨rfl, hb3⟩
  rw [HV.out]
  have C3 := Lib.hid (C2.out.below hb3)
  clear hb3 C2 x0 x1 x2 x3 x4
  have e1 : (tv == tv) = true := by simp
  have e2 : (tb == tb) = true := by simp
  go_wp2_with fail
  refine (truns_any _).mono ?_
  rintro e wd ⟨rfl, hbd⟩
  have CD := Lib.hid (C3.out.below hbd)
  clear hbd
  go_wp2_with fail
  go_ret
  exact ⟨by first | rfl | simp, CD.out.old⟩
theorem repairTells_w (x : Wd) (W : World) (h : ∃ ts ds os ps, Frames.WdOk W x ts ds os ∧ Frames.PlnOk W x.pl.a x.pl.n x.pl.c ps) : Calls Tryz.prog 4 #[wdV x] W fun e w' => e = .returned (.bool true) ∧ Below W.heap.size W w' := by
  obtain ⟨ts, ds, os, ps, h1, h2⟩ := h
  exact repairTells_walk x ts ds os ps W h1.ts h1.ds h1.os h2.plns
end Go.Proofs.YtilggpkmdmelmaaGreat.RepairW
