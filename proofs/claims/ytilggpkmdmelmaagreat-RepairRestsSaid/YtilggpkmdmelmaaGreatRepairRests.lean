import Derived.Test.YtilggpkmdmelmaaGreatRepairDs
import Derived.Test.YtilggpkmdmelmaaGreatKeepSmall
import Derived.Test.YtilggpkmdmelmaaGreatCertUseP
import Derived.Test.YtilggpkmdmelmaaGreatFrameWorldP
import Derived.Test.YtilggpkmdmelmaaGreatCertOneW
namespace Go.Proofs.YtilggpkmdmelmaaGreat.RepairW
open Go.ChangeShapes Go.WideShapes Go.ChangeAt Go.RowKit Go.Proofs.YtilggpkmdmelmaaGreat.Mem Go.Proofs.YtilggpkmdmelmaaGreat.GeoMath Go.Proofs.YtilggpkmdmelmaaGreat.FleetMath Go.Proofs.YtilggpkmdmelmaaGreat.PlanMath Go.Proofs.YtilggpkmdmelmaaGreat.CertMath Go.Proofs.YtilggpkmdmelmaaGreat.AuditMath Go.Proofs.YtilggpkmdmelmaaGreat.InsertMath Go.Proofs.YtilggpkmdmelmaaGreat.RepairMath Go.Proofs.YtilggpkmdmelmaaGreat.Rec Go.Proofs.YtilggpkmdmelmaaGreat.Geo Go.Proofs.YtilggpkmdmelmaaGreat.Span Go.Proofs.YtilggpkmdmelmaaGreat.Deal Go.Proofs.YtilggpkmdmelmaaGreat.Keep Go.Proofs.YtilggpkmdmelmaaGreat.Route Go.Proofs.YtilggpkmdmelmaaGreat.Plan Go.Proofs.YtilggpkmdmelmaaGreat.Cert
set_option linter.unusedVariables false
set_option linter.unusedSimpArgs false
theorem right_len {p : List Rte} (h : rightP p = true) : p.length * 40 ≤ 140737488351232 := by have := rightP_few h; omega
set_option maxRecDepth 100000 in
set_option maxHeartbeats 8000000 in
theorem repairRests_walk (x : Wd) (b : Int) (ts : List Int) (ds : List Drv) (os : List FleetMath.Ord) (ps : List RM) (W : World) (hts : Ints W W.heap.size x.ts.a x.ts.n ts) (hds : Drvs W W.heap.size x.ds.a x.ds.n ds) (hos : Ords W W.heap.size x.os.a x.os.n os) (hps : Plns W W.heap.size x.pl.a x.pl.n ps) (hn40 : x.pl.n * 40 ≤ 140737488351232) (hn80 : x.os.n * 80 ≤ 140737488351232) :
    Calls Tryz.prog 6 #[wdV x, .int .i64 b] W fun e w' => e = .returned (.bool true) ∧ Below W.heap.size W w' := by
  have HTS := Lib.hid hts
  have HDS := Lib.hid hds
  have HOS := Lib.hid hos
  have HPS := Lib.hid hps
  clear hts hds hos hps
  obtain ⟨m, hm⟩ : ∃ m, mapOf x.n ts = m := ⟨_, rfl⟩
  have HM := Lib.hid hm
  clear hm
  obtain ⟨R, hR⟩ : ∃ z, repairM m ds os (ps.map (·.rt)) b = z := ⟨_, rfl⟩
  have HR := Lib.hid hR
  clear hR
  have HB0 : Hid (Below W.heap.size W (W.alloc (.cells #[.int .i64 x.n, x.ts.v, x.ds.v, x.os.v, x.pl.v] 54))) := (Below.refl _ _).alloc (Nat.le_refl _) _
  have HW0 := Lib.hid (WBox.new W x)
  go_enter Tryz.func6, Tryz.ntmps6
  go_wp2_with fail
  refine (kmaps_any x ts _ (by exact Reads.more (Reads.keep HTS.out HB0.out) HB0.out.size)).mono ?_
  intro e w1 hmo
  obtain ⟨q, r, rfl, hcr⟩ := CR.start (n0 := 0) HB0.out HW0.out HDS.out HOS.out HPS.out HM.out hmo
  have C1 := Lib.hid hcr
  clear hmo hcr HB0 HW0
  obtain ⟨x0, x1, x2, x3, x4⟩ := C1.out.wd.cells
  go_wp2_with fail
  refine (ksmall_any x ps _ (by exact C1.out.plns)).mono ?_
  rintro e w2 ⟨he, hb2⟩
  have C2 := Lib.hid (C1.out.below hb2)
  clear hb2 C1 x0 x1 x2 x3 x4
  rcases he with rfl | rfl
  case inl =>
    go_wp2_with fail
    refine (truns_any _).mono ?_
    rintro e wd ⟨rfl, hbd⟩
    have CD := Lib.hid (C2.out.below hbd)
    clear hbd
    go_wp2_with fail
    go_ret
    exact ⟨by first | rfl | simp, CD.out.old⟩
  obtain ⟨x0, x1, x2, x3, x4⟩ := C2.out.wd.cells
  go_wp2_with fail
  refine (use_repair C2.out hn80 HR.out).mono ?_
  intro e w3 hro
  cases R with
  | none =>
    obtain ⟨rfl, hb3⟩ := hro
    have C3 := Lib.hid (C2.out.below hb3)
    clear hb3 C2 x0 x1 x2 x3 x4
    go_wp2_with fail
    refine (truns_any _).mono ?_
    rintro e wd ⟨rfl, hbd⟩
    have CD := Lib.hid (C3.out.below hbd)
    clear hbd
    go_wp2_with fail
    go_ret
    exact ⟨by first | rfl | simp, CD.out.old⟩
  | some R =>
  obtain ⟨B, c, l, rfl, hb3, hpl, hle, hcc⟩ := hro
  have C3 := Lib.hid (C2.out.below hb3)
  have P3 := Lib.hid hpl
  have HLE := Lib.hid hle
  clear hb3 hpl hle C2 x0 x1 x2 x3 x4
  by_cases hge : b ≤ (R.steps : Int)
  · have hge' : ¬ (R.steps : Int) < b := by omega
    go_wp2_with fail
    refine (truns_any _).mono ?_
    rintro e wd ⟨rfl, hbd⟩
    have CD := Lib.hid (C3.out.below hbd)
    clear hbd
    go_wp2_with fail
    go_ret
    exact ⟨by first | rfl | simp, CD.out.old⟩
  have hlt : (R.steps : Int) < b := by omega
  obtain ⟨⟨n', hpa⟩, R', hre, ho', hp'⟩ := rests_law HR.out hlt
  have HPA := Lib.hid hpa
  have HRE := Lib.hid hre
  have HO' := Lib.hid ho'
  have h40 : R.out.length * 40 ≤ 140737488351232 := by
    obtain ⟨_, _, _, _, u, _, hu, _⟩ := repair_law HR.out
    exact right_len (total_right hu)
  clear hpa hre ho'
  obtain ⟨x0, x1, x2, x3, x4⟩ := C3.out.wd.cells
  go_wp2_with fail
  refine (use_pass C3.out P3.out HLE.out hn80 hcc HPA.out).mono ?_
  rintro e w4 ⟨B4, c4, l4, rfl, hb4, hpl4, hle4, -⟩
  have C4 := Lib.hid (C3.out.below hb4)
  have P4 : Hid (Plns w4 w4.heap.size B R.out.length l) := (P3.out.keep hb4).more hb4.size
  have Q4 := Lib.hid hpl4
  have HL4 := Lib.hid hle4
  clear hb4 hpl4 hle4 C3 P3 x0 x1 x2 x3 x4
  obtain ⟨x0, x1, x2, x3, x4⟩ := C4.out.wd.cells
  go_wp2_with fail
  refine (use_repair2 C4.out P4.out HLE.out hn80 HRE.out).mono ?_
  rintro e w5 ⟨B5, c5, l5, rfl, hb5, hpl5, hle5, -⟩
  have C5 := Lib.hid (C4.out.below hb5)
  have P5 : Hid (Plns w5 w5.heap.size B R.out.length l) := (P4.out.keep hb5).more hb5.size
  have Q5 : Hid (Plns w5 w5.heap.size B4 R.out.length l4) := (Q4.out.keep hb5).more hb5.size
  rw [HO'.out] at hpl5 hle5
  rw [HO'.out, hp']
  have S5 := Lib.hid hpl5
  have HL5 := Lib.hid hle5
  clear hb5 hpl5 hle5 C4 P4 Q4 x0 x1 x2 x3 x4 hp'
  go_wp2_with fail
  refine (use_routes Q5.out P5.out (by rw [HL4.out, HLE.out])).mono ?_
  rintro e w6 ⟨rfl, hb6⟩
  have C6 := Lib.hid (C5.out.below hb6)
  have P6 : Hid (Plns w6 w6.heap.size B R.out.length l) := (P5.out.keep hb6).more hb6.size
  have S6 : Hid (Plns w6 w6.heap.size B5 R.out.length l5) := (S5.out.keep hb6).more hb6.size
  clear hb6 C5 P5 Q5 S5
  go_wp2_with fail
  refine (use_routes S6.out P6.out (by rw [HL5.out, HLE.out])).mono ?_
  rintro e w7 ⟨rfl, hb7⟩
  have C7 := Lib.hid (C6.out.below hb7)
  clear hb7 C6 P6 S6
  go_wp2_with fail
  refine (truns_any _).mono ?_
  rintro e wd ⟨rfl, hbd⟩
  have CD := Lib.hid (C7.out.below hbd)
  clear hbd
  go_wp2_with fail
  go_ret
  exact ⟨by first | rfl | simp, CD.out.old⟩
theorem repairRests_w (x : Wd) (b : Int) (W : World) (h : ∃ ts ds os ps, Frames.WdOk W x ts ds os ∧ Frames.PlnOk W x.pl.a x.pl.n x.pl.c ps) : Calls Tryz.prog 6 #[wdV x, .int .i64 b] W fun e w' => e = .returned (.bool true) ∧ Below W.heap.size W w' := by
  obtain ⟨ts, ds, os, ps, h1, h2⟩ := h
  exact repairRests_walk x b ts ds os ps W h1.ts h1.ds h1.os h2.plns (by have := h2.few; have := h2.le; omega) h1.osn
end Go.Proofs.YtilggpkmdmelmaaGreat.RepairW
