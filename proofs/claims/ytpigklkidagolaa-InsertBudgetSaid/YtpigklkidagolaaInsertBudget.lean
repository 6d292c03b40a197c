/-
  Two budgets: InsertBudget, walked. Written by tools/gen_insbudget.py.
-/
import Derived.Test.YtpigklkidagolaaInsertUses
import Derived.Test.YtpigklkidagolaaInsertMaths
import Derived.Test.YtpigklkidagolaaFrameWorldP
namespace Go.Proofs.Ytpigklkidagolaa.Insert
open Go.ChangeShapes Go.WideShapes Go.ChangeAt Go.RowKit Go.Proofs.Ytpigklkidagolaa.Mem Go.Proofs.Ytpigklkidagolaa.GeoMath Go.Proofs.Ytpigklkidagolaa.FleetMath Go.Proofs.Ytpigklkidagolaa.PlanMath Go.Proofs.Ytpigklkidagolaa.CertMath Go.Proofs.Ytpigklkidagolaa.InsertMath Go.Proofs.Ytpigklkidagolaa.Rec Go.Proofs.Ytpigklkidagolaa.Geo Go.Proofs.Ytpigklkidagolaa.Span Go.Proofs.Ytpigklkidagolaa.Deal Go.Proofs.Ytpigklkidagolaa.Keep Go.Proofs.Ytpigklkidagolaa.Route Go.Proofs.Ytpigklkidagolaa.Plan Go.Proofs.Ytpigklkidagolaa.Cert
set_option linter.unusedVariables false
set_option linter.unusedSimpArgs false
set_option maxRecDepth 100000 in
set_option maxHeartbeats 16000000 in
theorem insertBudget_walk (x : Wd) (o : FleetMath.Ord) (la lb : Int) (ts : List Int) (ds : List Drv) (os : List FleetMath.Ord) (ps : List RM) (W : World) (hts : Ints W W.heap.size x.ts.a x.ts.n ts) (hds : Drvs W W.heap.size x.ds.a x.ds.n ds) (hos : Ords W W.heap.size x.os.a x.os.n os) (hps : Plns W W.heap.size x.pl.a x.pl.n ps) (hn80 : x.os.n * 80 ≤ 140737488351232) :
    Calls Try.prog 7 #[wdV x, ordV o, .int .i64 la, .int .i64 lb] W fun e w' => e = .returned (.bool true) ∧ Below W.heap.size W w' := by
  have HTS := Lib.hid hts
  have HDS := Lib.hid hds
  have HOS := Lib.hid hos
  have HPS := Lib.hid hps
  clear hts hds hos hps
  obtain ⟨m, hm⟩ : ∃ m, mapOf x.n ts = m := ⟨_, rfl⟩
  have HM := Lib.hid hm
  clear hm
  obtain ⟨hb0, hw0, ho0⟩ := boxes_start (W := W) x o
  have HB0 := Lib.hid hb0
  have HW0 := Lib.hid hw0
  have HO0 := Lib.hid ho0
  clear hb0 hw0 ho0
  show Calls _ _ #[wdV x, .agg #[.int .i64 o.id, .int .i64 o.size, .int .i64 o.pick.place, .int .i64 o.pick.win.fr, .int .i64 o.pick.win.to, .int .i64 o.pick.serv, .int .i64 o.drop.place, .int .i64 o.drop.win.fr, .int .i64 o.drop.win.to, .int .i64 o.drop.serv], .int .i64 la, .int .i64 lb] _ _
  go_enter Try.func7, Try.ntmps7
  go_wp2_with fail
  refine (kmaps_any x ts _ (by exact Reads.more (Reads.keep HTS.out HB0.out) HB0.out.size)).mono ?_
  intro e w1 hmo
  have hb1 : Below _ _ w1 := hmo.1
  obtain ⟨q, r, rfl, hcr⟩ := CR.start (n0 := 0) HB0.out HW0.out HDS.out HOS.out HPS.out HM.out hmo
  have C1 : Hid (IR W q r m x ds os ps o w1) := ⟨hcr, HO0.out.below hb1⟩
  clear hmo hcr HB0 HW0 HO0 hb1
  go_upto_if 28 with fail
  go_cut [2, 3] (fun av bv wx => ∃ lo hi : Int, av = .int .i64 lo ∧ bv = .int .i64 hi ∧ lo ≤ hi ∧ Hid (IR W q r m x ds os ps o wx))
  case first =>
    by_cases hlt : lb < la
    · go_wp2_with fail
      go_meet
      exact ⟨lb, la, rfl, rfl, by omega, C1⟩
    · go_wp2_with fail
      go_meet
      exact ⟨la, lb, rfl, rfl, by omega, C1⟩
  case rest =>
  obtain ⟨lo, hi, rfl, rfl, hle, C2⟩ := hcut
  obtain ⟨w2, rfl⟩ : ∃ u, u = wc := ⟨_, rfl⟩
  clear C1
  obtain ⟨S, hS⟩ : ∃ z, cheapM m ds os (ps.map (·.rt)) o lo = z := ⟨_, rfl⟩
  obtain ⟨U, hU⟩ : ∃ z, cheapM m ds os (ps.map (·.rt)) o hi = z := ⟨_, rfl⟩
  obtain ⟨y, n1, e1⟩ := S
  obtain ⟨z, n2, e2⟩ := U
  have HS := Lib.hid hS
  have HU := Lib.hid hU
  have HH := Lib.hid (budget_two hle hS hU)
  clear hS hU hle
  obtain ⟨x0, x1, x2, x3, x4⟩ := C2.out.cr.wd.cells
  obtain ⟨o0, o1, o2, o3, o4, o5, o6, o7, o8, o9⟩ := C2.out.ord.cells
  go_wp2_with fail
  refine (use_cheapest C2.out hn80 HS.out).mono ?_
  rintro e w3 ⟨rfl, hb3⟩
  have hb3' : Below w2.heap.size w2 (w3.alloc (.cells #[.int .i64 y.drv, .int .i64 y.pick, .int .i64 y.drop, .int .i64 y.cost] 42)) := hb3.trans (((Below.refl _ _).alloc (Nat.le_refl _) _).mono hb3.size)
  have C3 := Lib.hid (C2.out.below hb3')
  have X3 : Hid (S4Box (w3.alloc (.cells #[.int .i64 y.drv, .int .i64 y.pick, .int .i64 y.drop, .int .i64 y.cost] 42)) w3.heap.size y) := Blk.new w3 _ _
  clear hb3 hb3' C2 x0 x1 x2 x3 x4 o0 o1 o2 o3 o4 o5 o6 o7 o8 o9
  go_upto_region 7 with fail
  obtain ⟨g1, hg1⟩ : ∃ g, w3.heap.size = g := ⟨_, rfl⟩
  obtain ⟨u3, hu3⟩ : ∃ u, (w3.alloc (.cells #[.int .i64 y.drv, .int .i64 y.pick, .int .i64 y.drop, .int .i64 y.cost] 42)) = u := ⟨_, rfl⟩
  rw [hg1, hu3] at X3
  rw [hu3] at C3
  rw [hg1, hu3]
  clear hg1 hu3
  obtain ⟨x0, x1, x2, x3, x4⟩ := C3.out.cr.wd.cells
  obtain ⟨o0, o1, o2, o3, o4, o5, o6, o7, o8, o9⟩ := C3.out.ord.cells
  go_wp2_with fail
  refine (use_cheapest C3.out hn80 HU.out).mono ?_
  rintro e w4 ⟨rfl, hb4⟩
  have hb4' : Below u3.heap.size u3 (w4.alloc (.cells #[.int .i64 z.drv, .int .i64 z.pick, .int .i64 z.drop, .int .i64 z.cost] 42)) := hb4.trans (((Below.refl _ _).alloc (Nat.le_refl _) _).mono hb4.size)
  have C4 := Lib.hid (C3.out.below hb4')
  have X4 : Hid (S4Box (w4.alloc (.cells #[.int .i64 z.drv, .int .i64 z.pick, .int .i64 z.drop, .int .i64 z.cost] 42)) g1 y) := Blk.below X3.out hb4' (Blk.lt X3.out)
  have Y4 : Hid (S4Box (w4.alloc (.cells #[.int .i64 z.drv, .int .i64 z.pick, .int .i64 z.drop, .int .i64 z.cost] 42)) w4.heap.size z) := Blk.new w4 _ _
  clear hb4 hb4' C3 X3 x0 x1 x2 x3 x4 o0 o1 o2 o3 o4 o5 o6 o7 o8 o9
  go_upto_region 8 with fail
  obtain ⟨g2, hg2⟩ : ∃ g, w4.heap.size = g := ⟨_, rfl⟩
  obtain ⟨u4, hu4⟩ : ∃ u, (w4.alloc (.cells #[.int .i64 z.drv, .int .i64 z.pick, .int .i64 z.drop, .int .i64 z.cost] 42)) = u := ⟨_, rfl⟩
  rw [hg2, hu4] at Y4
  rw [hu4] at C4 X4
  rw [hg2, hu4]
  clear hg2 hu4
  obtain ⟨x0, x1, x2, x3, x4⟩ := C4.out.cr.wd.cells
  rcases HH.out with ⟨rfl, rfl, rfl⟩ | ⟨h1, rfl, rfl, rfl⟩ | ⟨h1, h2, k1, k2, k3, k4, k5, k6, k7⟩
  · obtain ⟨a0, a1, a2, a3⟩ := X4.out.cells
    obtain ⟨c0, c1, c2, c3⟩ := Y4.out.cells
    have HX := HH.out
    by_cases hf : e2 = 1
    · subst hf
      have hz : z = sp0 ∧ n2 = 0 := by
        rcases cheap_one HU.out with ⟨_, h1, h2⟩ | ⟨h1, _⟩
        · exact ⟨h1, h2⟩
        · exact absurd rfl h1
      obtain ⟨rfl, rfl⟩ := hz
      clear HX HS HU HH
      go_wp2_with fail
      refine (runs_any _).mono ?_
      rintro e wd ⟨rfl, hbd⟩
      have CD := Lib.hid (C4.out.below hbd)
      clear hbd C4 x0 x1 x2 x3 x4 a0 a1 a2 a3 c0 c1 c2 c3 X4 Y4
      go_wp2_with fail
      go_ret
      exact ⟨rfl, CD.out.cr.old⟩
    · have e5 : (e2 == 1) = false := by simpa using hf
      have e6 : (e2 != 1) = true := by simpa using hf
      clear HX HS HU HH hf
      go_wp2_with fail
      refine (runs_any _).mono ?_
      rintro e wd ⟨rfl, hbd⟩
      have CD := Lib.hid (C4.out.below hbd)
      clear hbd C4 x0 x1 x2 x3 x4 a0 a1 a2 a3 c0 c1 c2 c3 X4 Y4
      go_wp2_with fail
      go_ret
      exact ⟨rfl, CD.out.cr.old⟩
  · obtain ⟨a0, a1, a2, a3⟩ := X4.out.cells
    obtain ⟨c0, c1, c2, c3⟩ := Y4.out.cells
    have e5 : (e1 == 1) = false := by simpa using h1
    have e6 : (e1 != 1) = true := by simpa using h1
    clear h1 HS HU HH
    go_wp2_with fail
    refine (runs_any _).mono ?_
    rintro e wd ⟨rfl, hbd⟩
    have CD := Lib.hid (C4.out.below hbd)
    clear hbd C4 x0 x1 x2 x3 x4 a0 a1 a2 a3 c0 c1 c2 c3 X4 Y4
    go_wp2_with fail
    go_ret
    exact ⟨rfl, CD.out.cr.old⟩
  · obtain ⟨a0, a1, a2, a3⟩ := X4.out.cells
    obtain ⟨c0, c1, c2, c3⟩ := Y4.out.cells
    have K4 := Lib.hid k4
    have K5 := Lib.hid k5
    have e5 : ¬ lo < n1 := by omega
    have e6 : ¬ hi < n2 := by omega
    have e7 : ¬ n2 < n1 := by omega
    clear HS HU HH k4 k5 k1 k2 k3 h1 h2
    by_cases hn : n1 < lo
    · obtain ⟨rfl, rfl, rfl⟩ := K4.out hn
      rcases k6 with rfl | rfl
      · clear k7 K4 K5
        go_wp2_with fail
        refine (runs_any _).mono ?_
        rintro e wd ⟨rfl, hbd⟩
        have CD := Lib.hid (C4.out.below hbd)
        clear hbd C4 x0 x1 x2 x3 x4 a0 a1 a2 a3 c0 c1 c2 c3 X4 Y4
        go_wp2_with fail
        go_ret
        exact ⟨rfl, CD.out.cr.old⟩
      · clear k7 K4 K5
        go_wp2_with fail
        refine (runs_any _).mono ?_
        rintro e wd ⟨rfl, hbd⟩
        have CD := Lib.hid (C4.out.below hbd)
        clear hbd C4 x0 x1 x2 x3 x4 a0 a1 a2 a3 c0 c1 c2 c3 X4 Y4
        go_wp2_with fail
        go_ret
        exact ⟨rfl, CD.out.cr.old⟩
    · rcases k6 with rfl | rfl
      · obtain ⟨rfl, hle⟩ := K5.out rfl
        have e8 : ¬ y.cost < z.cost := by omega
        clear k7 K4 K5 hle
        go_wp2_with fail
        refine (runs_any _).mono ?_
        rintro e wd ⟨rfl, hbd⟩
        have CD := Lib.hid (C4.out.below hbd)
        clear hbd C4 x0 x1 x2 x3 x4 a0 a1 a2 a3 c0 c1 c2 c3 X4 Y4
        go_wp2_with fail
        go_ret
        exact ⟨rfl, CD.out.cr.old⟩
      · rcases k7 with rfl | rfl
        · clear K4 K5
          go_wp2_with fail
          refine (runs_any _).mono ?_
          rintro e wd ⟨rfl, hbd⟩
          have CD := Lib.hid (C4.out.below hbd)
          clear hbd C4 x0 x1 x2 x3 x4 a0 a1 a2 a3 c0 c1 c2 c3 X4 Y4
          go_wp2_with fail
          go_ret
          exact ⟨rfl, CD.out.cr.old⟩
        · clear K4 K5
          go_wp2_with fail
          refine (runs_any _).mono ?_
          rintro e wd ⟨rfl, hbd⟩
          have CD := Lib.hid (C4.out.below hbd)
          clear hbd C4 x0 x1 x2 x3 x4 a0 a1 a2 a3 c0 c1 c2 c3 X4 Y4
          go_wp2_with fail
          go_ret
          exact ⟨rfl, CD.out.cr.old⟩
theorem insertBudget_w (x : Wd) (o : FleetMath.Ord) (a b : Int) (W : World) (h : ∃ ts ds os ps, Frames.WdOk W x ts ds os ∧ Frames.PlnOk W x.pl.a x.pl.n x.pl.c ps) : Calls Try.prog 7 #[wdV x, ordV o, .int .i64 a, .int .i64 b] W fun e w' => e = .returned (.bool true) ∧ Below W.heap.size W w' := by
  obtain ⟨ts, ds, os, ps, h1, h2⟩ := h
  exact insertBudget_walk x o a b ts ds os ps W h1.ts h1.ds h1.os h2.plns h1.osn
#print axioms insertBudget_w
end Go.Proofs.Ytpigklkidagolaa.Insert
