/-
  On a route of up to ten stops no open place is better than the one that is told: InsertLeast, walked. Written by tools/gen_insleast.py.
-/
import Derived.Test.YtpigklkidagolaaInsertUses
import Derived.Test.YtpigklkidagolaaInsertMaths
import Derived.Test.YtpigklkidagolaaFrameWorldP
import Derived.Test.YtpigklkidagolaaSlackPs
namespace Go.Proofs.Ytpigklkidagolaa.Insert
open Go.ChangeShapes Go.WideShapes Go.ChangeAt Go.RowKit Go.Proofs.Ytpigklkidagolaa.Mem Go.Proofs.Ytpigklkidagolaa.GeoMath Go.Proofs.Ytpigklkidagolaa.FleetMath Go.Proofs.Ytpigklkidagolaa.PlanMath Go.Proofs.Ytpigklkidagolaa.CertMath Go.Proofs.Ytpigklkidagolaa.InsertMath Go.Proofs.Ytpigklkidagolaa.Rec Go.Proofs.Ytpigklkidagolaa.Geo Go.Proofs.Ytpigklkidagolaa.Span Go.Proofs.Ytpigklkidagolaa.Deal Go.Proofs.Ytpigklkidagolaa.Keep Go.Proofs.Ytpigklkidagolaa.Route Go.Proofs.Ytpigklkidagolaa.Plan Go.Proofs.Ytpigklkidagolaa.Cert Go.Proofs.Ytpigklkidagolaa.Slack
set_option linter.unusedVariables false
set_option linter.unusedSimpArgs false
set_option maxRecDepth 100000 in
set_option maxHeartbeats 16000000 in
theorem insertLeast_walk (x : Wd) (o : FleetMath.Ord) (at_ who : Int) (ts : List Int) (ds : List Drv) (os : List FleetMath.Ord) (ps : List RM) (W : World) (hts : Ints W W.heap.size x.ts.a x.ts.n ts) (hds : Drvs W W.heap.size x.ds.a x.ds.n ds) (hos : Ords W W.heap.size x.os.a x.os.n os) (hps : Plns W W.heap.size x.pl.a x.pl.n ps) (hn40 : x.pl.n * 40 ≤ 140737488351232) (hn48 : x.ds.n * 48 ≤ 140737488351232) (hn80 : x.os.n * 80 ≤ 140737488351232) :
    Calls Try.prog 6 #[wdV x, ordV o, .int .i64 at_, .int .i64 who] W fun e w' => e = .returned (.bool true) ∧ Below W.heap.size W w' := by
  have HLO := Lib.hid hos.length
  have HTS := Lib.hid hts
  have HDS := Lib.hid hds
  have HOS := Lib.hid hos
  have HPS := Lib.hid hps
  clear hts hds hos hps
  obtain ⟨m, hm⟩ : ∃ m, mapOf x.n ts = m := ⟨_, rfl⟩
  have HM := Lib.hid hm
  clear hm
  obtain ⟨rx, hrx⟩ := OneIn.exists ps at_
  obtain ⟨d, hd⟩ := DrvAt.exists ds who
  obtain ⟨S, hS⟩ : ∃ z, bestM m d os rx.rt o 100000 = z := ⟨_, rfl⟩
  have HRX := Lib.hid hrx
  have HDA := Lib.hid hd
  have HS := Lib.hid hS
  clear hS hrx hd
  obtain ⟨s, n1, e1⟩ := S
  obtain ⟨hb0, hw0, ho0⟩ := boxes_start (W := W) x o
  have HB0 := Lib.hid hb0
  have HW0 := Lib.hid hw0
  have HO0 := Lib.hid ho0
  clear hb0 hw0 ho0
  show Calls _ _ #[wdV x, .agg #[.int .i64 o.id, .int .i64 o.size, .int .i64 o.pick.place, .int .i64 o.pick.win.fr, .int .i64 o.pick.win.to, .int .i64 o.pick.serv, .int .i64 o.drop.place, .int .i64 o.drop.win.fr, .int .i64 o.drop.win.to, .int .i64 o.drop.serv], .int .i64 at_, .int .i64 who] _ _
  go_enter Try.func6, Try.ntmps6
  go_wp2_with fail
  refine (kmaps_any x ts _ (by exact Reads.more (Reads.keep HTS.out HB0.out) HB0.out.size)).mono ?_
  intro e w1 hmo
  have hb1 : Below _ _ w1 := hmo.1
  obtain ⟨q, r, rfl, hcr⟩ := CR.start (n0 := 0) HB0.out HW0.out HDS.out HOS.out HPS.out HM.out hmo
  have C1 : Hid (IR W q r m x ds os ps o w1) := ⟨hcr, HO0.out.below hb1⟩
  clear hmo hcr HB0 HW0 HO0 hb1
  have HW : Hid (∀ u, Below w1.heap.size w1 u → WBox u W.heap.size x) := fun u hu => (C1.out.below hu).cr.wd
  have HON : Hid (∀ u, Below w1.heap.size w1 u → Calls Try.prog 15 #[.slice x.pl.a x.pl.n x.pl.c, .int .i64 at_] u fun e w' => e = .returned (rteV rx) ∧ Below u.heap.size u w') := fun u hu => kone_at HRX.out u (C1.out.below hu).cr.plns hn40
  have HDR : Hid (∀ u, Below w1.heap.size w1 u → Calls Try.prog 16 #[wdV x, .int .i64 who] u fun e w' => e = .returned (drvV d) ∧ Below u.heap.size u w') := fun u hu => kdriver_at x ds who d HDA.out u (C1.out.below hu).cr.drvs (by omega)
  go_upto_region 4 with fail
  go_cut [12, 13] from 35 to 41 (fun pv qv wx => ∃ g1 g2, pv = .pointer (some ⟨g1, 0, none⟩) ∧ qv = .pointer (some ⟨g2, 0, none⟩) ∧ Hid (Below w1.heap.size w1 wx) ∧ Hid (RBox wx g1 rx) ∧ Hid (DBox wx g2 d))
  case first =>
    refine wp_region_steps (boxesRF [35, 36, 37, 38, 39, 40, 41, 12, 13, 12, 13] [.pointer (some ⟨W.heap.size, 4, none⟩), .slice x.pl.a x.pl.n x.pl.c, .int .i64 at_, rteV rx, wdV x, .int .i64 who, drvV d] [⟨7, 9, 39, [.int .i64 0, .int .i64 0, .slice none 0 0], [.int .i64 rx.rt.drv, .int .i64 rx.rt.served, .slice rx.a rx.n rx.c]⟩, ⟨8, 10, 33, [.int .i64 0, .int .i64 0, .int .i64 0, .int .i64 0, .int .i64 0, .bool false], [.int .i64 d.id, .int .i64 d.room, .int .i64 d.home, .int .i64 d.win.fr, .int .i64 d.win.to, .bool d.retired]⟩]) (by kernel_rfl) (by kernel_rfl) (by kernel_rfl) (fun q hq => boxesRF.free (by kernel_rfl) q hq) (by kernel_rfl) boxesRF.mon ?_ ?_
    · refine ⟨?_, ?_, ?_, ?_, ?_, ?_, ?_, ?_, ?_, ?_, ?_, trivial⟩
      · exact boxesRF.pureStep rfl 35 rfl rfl (by simp) (by kernel_rfl) (by kernel_rfl) _ rfl fun listed a u D hI hr hn => op_field rfl (hI.out 4 (by kernel_rfl)) (by simp [go_sem])
      · exact boxesRF.pureStep rfl 36 rfl rfl (by simp) (by kernel_rfl) (by kernel_rfl) _ rfl fun listed a u D hI hr hn => exec_load rfl (boxesRF.val hI hr hn 0 (by kernel_rfl) (by kernel_rfl) (by kernel_rfl) rfl rfl) (run_load_sl _ (.inr (.inr rfl)) (HW.out _ (OneR.below_drew hI.old)).cells.2.2.2.2)
      · exact boxesRF.pureStep rfl 37 rfl rfl (by simp) (by kernel_rfl) (by kernel_rfl) _ rfl fun listed a u D hI hr hn => exec_move (.inl rfl) (hI.out 2 (by kernel_rfl))
      · exact boxesRF.callStep rfl 38 rfl rfl (by simp) (by kernel_rfl) (by kernel_rfl) _ rfl fun listed a u D hI hr hn => ⟨_, _, op_call2 rfl (boxesRF.val hI hr hn 1 (by kernel_rfl) (by kernel_rfl) (by kernel_rfl) rfl rfl) (boxesRF.val hI hr hn 2 (by kernel_rfl) (by kernel_rfl) (by kernel_rfl) rfl rfl) (by simp [go_sem]), HON.out _ (OneR.below_drew hI.old)⟩
      · exact boxesRF.pureStep rfl 39 rfl rfl (by simp) (by kernel_rfl) (by kernel_rfl) _ rfl fun listed a u D hI hr hn => exec_load rfl (hI.out 4 (by kernel_rfl)) (run_load_wd (HW.out _ (OneR.below_drew hI.old)))
      · exact boxesRF.pureStep rfl 40 rfl rfl (by simp) (by kernel_rfl) (by kernel_rfl) _ rfl fun listed a u D hI hr hn => exec_move (.inl rfl) (hI.out 3 (by kernel_rfl))
      · exact boxesRF.callStep rfl 41 rfl rfl (by simp) (by kernel_rfl) (by kernel_rfl) _ rfl fun listed a u D hI hr hn => ⟨_, _, op_call2 rfl (boxesRF.val hI hr hn 4 (by kernel_rfl) (by kernel_rfl) (by kernel_rfl) rfl rfl) (boxesRF.val hI hr hn 5 (by kernel_rfl) (by kernel_rfl) (by kernel_rfl) rfl rfl) (by simp [go_sem]), HDR.out _ (OneR.below_drew hI.old)⟩
      · exact boxesRF.allocStep rfl 12 rfl rfl (by simp) (b := ⟨7, 9, 39, [.int .i64 0, .int .i64 0, .slice none 0 0], [.int .i64 rx.rt.drv, .int .i64 rx.rt.served, .slice rx.a rx.n rx.c]⟩) (by kernel_rfl) fun a u => exec_art rfl
      · exact boxesRF.allocStep rfl 13 rfl rfl (by simp) (b := ⟨8, 10, 33, [.int .i64 0, .int .i64 0, .int .i64 0, .int .i64 0, .int .i64 0, .bool false], [.int .i64 d.id, .int .i64 d.room, .int .i64 d.home, .int .i64 d.win.fr, .int .i64 d.win.to, .bool d.retired]⟩) (by kernel_rfl) fun a u => exec_adr rfl
      · exact boxesRF.storeStep (b := ⟨7, 9, 39, [.int .i64 0, .int .i64 0, .slice none 0 0], [.int .i64 rx.rt.drv, .int .i64 rx.rt.served, .slice rx.a rx.n rx.c]⟩) rfl rfl (by kernel_rfl) (by kernel_rfl) (by kernel_rfl) rfl rfl rfl (by kernel_rfl) fun listed a u D hI hr hn g e1 hb => ⟨_, exec_store rfl e1 (boxesRF.val hI hr hn 3 (by kernel_rfl) (by kernel_rfl) (by kernel_rfl) rfl rfl) (run_store_rx hb rx), (((Only.refl _ _).set _ _).set _ _).set _ _, putRt_of hb rx⟩
      · exact boxesRF.storeStep (b := ⟨8, 10, 33, [.int .i64 0, .int .i64 0, .int .i64 0, .int .i64 0, .int .i64 0, .bool false], [.int .i64 d.id, .int .i64 d.room, .int .i64 d.home, .int .i64 d.win.fr, .int .i64 d.win.to, .bool d.retired]⟩) rfl rfl (by kernel_rfl) (by kernel_rfl) (by kernel_rfl) rfl rfl rfl (by kernel_rfl) fun listed a u D hI hr hn g e1 hb => ⟨_, exec_store rfl e1 (boxesRF.val hI hr hn 6 (by kernel_rfl) (by kernel_rfl) (by kernel_rfl) rfl rfl) (run_store_dx hb d), ((((((Only.refl _ _).set _ _).set _ _).set _ _).set _ _).set _ _).set _ _, putDr_of hb d⟩
    · intro listed a u D hI hall
      obtain ⟨g1, eB, hbx⟩ := boxesRF.box hI hall (b := ⟨7, 9, 39, [.int .i64 0, .int .i64 0, .slice none 0 0], [.int .i64 rx.rt.drv, .int .i64 rx.rt.served, .slice rx.a rx.n rx.c]⟩) 9 (by decide) (by kernel_rfl) (by kernel_rfl) (s := 12) rfl
      obtain ⟨g2, eC, hcx⟩ := boxesRF.box hI hall (b := ⟨8, 10, 33, [.int .i64 0, .int .i64 0, .int .i64 0, .int .i64 0, .int .i64 0, .bool false], [.int .i64 d.id, .int .i64 d.room, .int .i64 d.home, .int .i64 d.win.fr, .int .i64 d.win.to, .bool d.retired]⟩) 10 (by decide) (by kernel_rfl) (by kernel_rfl) (s := 13) rfl
      have hold := OneR.below_drew hI.old
      have hl := hI.fill [35, 36, 37, 38, 39, 40, 41, 12, 13] (by kernel_rfl)
      clear hI hall
      obtain ⟨σ, hσ⟩ : ∃ σ : Nat → Value, ∀ t, a.tmps.getD t undef = σ t := ⟨_, fun _ => rfl⟩
      simp only [hσ] at hl eB eC
      clear hσ
      simp only [List.foldl_cons, List.foldl_nil, List.setIfInBounds_toArray, List.set_cons_zero, List.set_cons_succ, eB, eC] at hl
      subst hl
      go_wp2_with fail
      go_meet
      exact ⟨g1, g2, rfl, rfl, hold, hbx, hcx⟩
  case rest =>
  obtain ⟨g1, g2, rfl, rfl, hb5, R5, D5⟩ := hcut
  obtain ⟨w5, rfl⟩ : ∃ u, u = wc := ⟨_, rfl⟩
  have C5 := Lib.hid (C1.out.below hb5.out)
  clear hb5 C1 HW HON HDR
  obtain ⟨hsx, hcx, hrx⟩ := HRX.out.stops HPS.out
  have HSX := Lib.hid hsx
  have hxl := hsx.length
  have HXL := Lib.hid hxl
  clear hsx hxl HRX HDA
  obtain ⟨x0, x1, x2, x3, x4⟩ := C5.out.cr.wd.cells
  obtain ⟨o0, o1, o2, o3, o4, o5, o6, o7, o8, o9⟩ := C5.out.ord.cells
  obtain ⟨r0, r1, r2⟩ := R5.out.cells
  obtain ⟨d0, d1, d2, d3, d4, d5⟩ := D5.out.cells
  have HPB : Hid (Calls Try.prog 17 #[.pointer q, drvV d, x.os.v, rteV rx, ordV o, .int .i64 100000] w5 (Gives w5 (toldV (s, n1, e1)))) := by
    have h1 := pbest_any W.heap.size (.pointer q) m d x.os.a x.os.n x.os.c os rx o 100000 w5 C5.out.cr.map C5.out.cr.ords (Recs.more (Recs.keep HSX.out C5.out.cr.old) C5.out.cr.old.size) hcx x.os.h hn80 hrx
    rw [HS.out] at h1
    exact h1
  go_wp2_with fail
  refine HPB.out.mono ?_
  rintro e w6 ⟨rfl, hb6⟩
  have hb6' : Below w5.heap.size w5 (w6.alloc (.cells #[.int .i64 s.drv, .int .i64 s.pick, .int .i64 s.drop, .int .i64 s.cost] 42)) := hb6.trans (((Below.refl _ _).alloc (Nat.le_refl _) _).mono hb6.size)
  have C6 := Lib.hid (C5.out.below hb6')
  have R6 := Lib.hid (R5.out.below hb6')
  have D6 := Lib.hid (D5.out.below hb6')
  have X6 : Hid (S4Box (w6.alloc (.cells #[.int .i64 s.drv, .int .i64 s.pick, .int .i64 s.drop, .int .i64 s.cost] 42)) w6.heap.size s) := Blk.new w6 _ _
  clear hb6 hb6' C5 R5 D5 HPB x0 x1 x2 x3 x4 o0 o1 o2 o3 o4 o5 o6 o7 o8 o9 r0 r1 r2 d0 d1 d2 d3 d4 d5
  go_upto_region 6 with fail
  obtain ⟨g3, hg3⟩ : ∃ g, w6.heap.size = g := ⟨_, rfl⟩
  obtain ⟨u6, hu6⟩ : ∃ u, (w6.alloc (.cells #[.int .i64 s.drv, .int .i64 s.pick, .int .i64 s.drop, .int .i64 s.cost] 42)) = u := ⟨_, rfl⟩
  rw [hg3, hu6] at X6
  rw [hu6] at C6 R6 D6
  rw [hg3, hu6]
  clear hg3 hu6
  obtain ⟨r0, r1, r2⟩ := R6.out.cells
  obtain ⟨a0, a1, a2, a3⟩ := X6.out.cells
  have HCO := Lib.hid (best_codes HS.out)
  by_cases hmain : (e1 = 0 ∨ e1 = 20) ∧ rx.n ≤ 10
  case neg =>
    by_cases h0 : e1 = 0
    · subst h0
      have hlt : (10 : Int) < (rx.n : Int) := by omega
      clear hmain HCO
      go_wp2_with fail
      refine (runs_any _).mono ?_
      rintro e wd ⟨rfl, hbd⟩
      have CD := Lib.hid (C6.out.below hbd)
      clear hbd
      go_wp2_with fail
      go_ret
      exact ⟨by first | rfl | simp, CD.out.cr.old⟩
    have hs : s = sp0 := HCO.out.resolve_left h0
    subst hs
    have e0 : (e1 == 0) = false := by simpa using h0
    have e0' : (e1 != 0) = true := by simpa using h0
    by_cases h20 : e1 = 20
    · subst h20
      have hlt : (10 : Int) < (rx.n : Int) := by omega
      clear hmain HCO h0 e0 e0'
      go_wp2_with fail
      refine (runs_any _).mono ?_
      rintro e wd ⟨rfl, hbd⟩
      have CD := Lib.hid (C6.out.below hbd)
      clear hbd
      go_wp2_with fail
      go_ret
      exact ⟨by first | rfl | simp, CD.out.cr.old⟩
    have e20 : (e1 != 20) = true := by simpa using h20
    clear hmain HCO h0 h20
    go_wp2_with fail
    refine (runs_any _).mono ?_
    rintro e wd ⟨rfl, hbd⟩
    have CD := Lib.hid (C6.out.below hbd)
    clear hbd
    go_wp2_with fail
    go_ret
    exact ⟨by first | rfl | simp, CD.out.cr.old⟩
  obtain ⟨hcode, hn10⟩ := hmain
  obtain ⟨sv, hsv, hsl, hdr, hfd, hn1, h121, hbest⟩ := least_start HS.out hcode (by rw [HXL.out]; exact hn10)
  rw [HXL.out] at hsl hn1 h121
  have HSV := Lib.hid hsv
  have HDRV := Lib.hid hdr
  have HFD := Lib.hid hfd
  have HN1 := Lib.hid hn1
  have HBE := Lib.hid hbest
  have HCD := Lib.hid hcode
  have h121 : (posL sv rx.n).length ≤ 121 := h121
  have HPL := Lib.hid h121
  have hos40 : x.os.n ≤ 40 := by
    obtain ⟨_, _, _, _, _, hk, _⟩ := drive_fine hdr
    rw [← HLO.out]
    exact (known_iff.1 hk).1
  have HNR := Lib.hid (near C6.out.cr.map)
  obtain ⟨ov, ok0, hov, hov1⟩ := cost_form m d os rx.rt.stops
  have HOV := Lib.hid hov
  have HOC := Lib.hid hov1
  have hlt : ¬ (10 : Int) < (rx.n : Int) := by omega
  have hsl' : sv ≤ rx.n := hsl
  clear hsv hsl hdr hfd hn1 h121 hbest hcode hov hov1 HS
  go_cut [64] from 53 to 63 (fun bv wx => bv = .bool false ∧ wx = u6)
  case first =>
    rcases HCD.out with h | h
    · subst h
      go_wp2_with fail
      go_meet
      exact ⟨by first | rfl | simp [hlt], rfl⟩
    · subst h
      go_wp2_with fail
      go_meet
      exact ⟨by first | rfl | simp [hlt], rfl⟩
  case rest =>
  obtain ⟨rfl, rfl⟩ := hcut
  obtain ⟨u6, rfl⟩ : ∃ u, u = wc := ⟨_, rfl⟩
  obtain ⟨x0, x1, x2, x3, x4⟩ := C6.out.cr.wd.cells
  obtain ⟨d0, d1, d2, d3, d4, d5⟩ := D6.out.cells
  clear a0 a1 a2 a3 hlt
  go_wp2_with fail
  refine (gcost_any W.heap.size (.pointer q) m d x.os.a x.os.n x.os.c os rx.a rx.n rx.c rx.rt.stops _ (by exact C6.out.cr.map) (by exact C6.out.cr.ords) (by exact Recs.more (Recs.keep HSX.out C6.out.cr.old) C6.out.cr.old.size) hcx x.os.h).mono ?_
  rintro e w8 ⟨rfl, hb8⟩
  rw [HOV.out]
  have C8 := Lib.hid (C6.out.below hb8)
  have R8 := Lib.hid (R6.out.below hb8)
  have D8 := Lib.hid (D6.out.below hb8)
  have X8 : Hid (S4Box w8 g3 s) := Blk.below X6.out hb8 (Blk.lt X6.out)
  clear hb8 C6 R6 D6 X6 HOV x0 x1 x2 x3 x4 d0 d1 d2 d3 d4 d5 r0 r1 r2
  have HW : Hid (∀ u, Below w8.heap.size w8 u → WBox u W.heap.size x) := fun u hu => (C8.out.below hu).cr.wd
  have HOB : Hid (∀ u, Below w8.heap.size w8 u → OBox u (W.heap.size + 1) o) := fun u hu => (C8.out.below hu).ord
  have HOR : Hid (∀ u, Below w8.heap.size w8 u → Ords u u.heap.size x.os.a x.os.n os) := fun u hu => (C8.out.below hu).cr.ords
  go_upto_region 9 with fail
  go_cut [19] from 85 to 91 (fun mv wx => ∃ A9 c9, mv = .slice A9 (x.os.n + 1) c9 ∧ Hid (Below w8.heap.size w8 wx) ∧ Hid (Ords wx wx.heap.size A9 (x.os.n + 1) (os ++ [o])) ∧ Hid (x.os.n + 1 ≤ c9))
  case first =>
    refine wp_region_steps (more2RF [85, 86, 87, 88, 89, 90, 91, 19] w8.drew.heap.size (.pointer (some ⟨W.heap.size, 3, none⟩)) x.os.a x.os.n x.os.c os o) (by kernel_rfl) (by kernel_rfl) (by kernel_rfl) (fun k hk => ?_) (by kernel_rfl) more2_mon ?_ ?_
    · simp only [List.length_cons, List.length_nil] at hk
      simp only [more2RF]
      rw [if_neg (by omega), if_neg (by omega), if_neg (by omega), if_neg (by omega)]
    · refine ⟨?_, ?_, ?_, ?_, ?_, ?_, ?_, ?_, trivial⟩
      · exact RStep.val rfl 85 rfl rfl (by simp) fun listed a u D hI hr hn => ⟨_, _, _, exec_none rfl, new_post hI.old ⟨OwnK.new0 u _ _ _ hI.old.size, fun b => by simp [Value.ownBlock]; exact eq_comm⟩⟩
      · exact RStep.pure rfl 86 rfl rfl (by simp) fun listed a u D hI hr hn => ⟨_, op_field rfl (hI.out 4 (by kernel_rfl)) (by simp [go_sem]), pureF.new rfl⟩
      · refine RStep.pure rfl 87 rfl rfl (by simp) fun listed a u D hI hr hn => ?_
        obtain ⟨e1, _⟩ : pureF _ _ _ := (hI.get hr hn 1 (by kernel_rfl) (.inl rfl)).1
        exact ⟨_, exec_load rfl (own_eval e1) (run_load_sl _ (.inr (.inl rfl)) (HW.out _ (OneR.below_drew hI.old)).cells.2.2.2.1), pureF.new rfl⟩
      · refine RStep.val rfl 88 rfl rfl (by simp) fun listed a u D hI hr hn => ?_
        obtain ⟨ho2, hd2⟩ : ownF _ _ _ _ _ _ _ _ := (hI.get hr hn 0 (by kernel_rfl) (.inr rfl)).1
        obtain ⟨e3, _⟩ : pureF _ _ _ := (hI.get hr hn 2 (by kernel_rfl) (.inl rfl)).1
        obtain ⟨v', u', hrun, hv', hg, hor⟩ := run_append_ks 34 Try.underlying34 infoOrd rfl (by omega) ho2 x.os.c (HOR.out _ (OneR.below_drew hI.old)) (ordsV_one _) (by unfold maxLen; omega) (by omega) hI.old.size
        rw [Nat.zero_add, List.nil_append] at hv'
        exact ⟨v', u', _, exec_append rfl (own_eval rfl) (own_eval e3) hrun, grow_post hI.old hd2 rfl ho2 hv' hg hor ⟨hv', fun b => Iff.rfl⟩⟩
      · exact RStep.pure rfl 89 rfl rfl (by simp) fun listed a u D hI hr hn => ⟨_, exec_load rfl (hI.out 5 (by kernel_rfl)) (Slack.run_load_ord (HOB.out _ (OneR.below_drew hI.old))), pureF.new rfl⟩
      · refine RStep.val rfl 90 rfl rfl (by simp) fun listed a u D hI hr hn => ?_
        obtain ⟨e5, _⟩ : pureF _ _ _ := (hI.get hr hn 4 (by kernel_rfl) (.inl rfl)).1
        exact ⟨_, _, _, exec_one rfl (own_eval e5), new_post hI.old ⟨_, rfl, Blk.new u _ _, fun b => Iff.rfl⟩⟩
      · refine RStep.val rfl 91 rfl rfl (by simp) fun listed a u D hI hr hn => ?_
        obtain ⟨ho4, hd4⟩ : ownF _ _ _ _ _ _ _ _ := (hI.get hr hn 3 (by kernel_rfl) (.inr rfl)).1
        obtain ⟨g6, e6, hb6, hd6⟩ : blkF _ _ _ _ _ _ := (hI.get hr hn 5 (by kernel_rfl) (.inr rfl)).1
        have hr6 : Recs u u.heap.size (some ⟨g6, 0, none⟩) 1 10 (ordL o) := ⟨rfl, by unfold maxLen; omega, fun _ => ⟨g6, 0, rfl, hb6.lt, fun p y hy => by rw [Nat.zero_add]; exact hb6.cell hy⟩⟩
        obtain ⟨v', u', hrun, hv', hg, hor⟩ := run_append_ks 34 Try.underlying34 infoOrd rfl (by omega) ho4 1 hr6 (ordL_one o) (by unfold maxLen; omega) (by omega) hI.old.size
        have hv2 : OwnK u' w8.drew.heap.size 31 10 v' (x.os.n + 1) (ordsV (os ++ [o])) := by rw [ordsV_append]; exact hv'
        exact ⟨v', u', _, exec_append rfl (own_eval rfl) (own_eval e6) hrun, grow_post hI.old hd4 rfl ho4 hv2 hg hor ⟨hv2, fun b => Iff.rfl⟩⟩
      · refine RStep.val rfl 19 rfl rfl (by simp) fun listed a u D hI hr hn => ?_
        obtain ⟨ho5, hd5⟩ : ownF _ _ _ _ _ _ _ _ := (hI.get hr hn 6 (by kernel_rfl) (.inr rfl)).1
        exact ⟨_, u, D 6, exec_move (.inr rfl) rfl, hI.old, Nat.le_refl _, fun _ _ _ => rfl, fun b hb => .inl ⟨6, rfl, hb⟩, ⟨ho5, hd5⟩⟩
    · intro listed a u D hI hall
      obtain ⟨hrow, _⟩ : ownF _ _ _ _ _ _ _ _ := hI.fact 7 ⟨hall 7 (by simp), fun k hk => by simp [more2RF] at hk⟩
      have hold := OneR.below_drew hI.old
      have hl := hI.fill [85, 86, 87, 88, 89, 90, 91, 19] (by kernel_rfl)
      clear hI hall
      obtain ⟨σ, hσ⟩ : ∃ σ : Nat → Value, ∀ t, a.tmps.getD t undef = σ t := ⟨_, fun _ => rfl⟩
      have hrow' : OwnK u w8.drew.heap.size 31 10 (a.tmps.getD 19 undef) (x.os.n + 1) (ordsV (os ++ [o])) := hrow
      clear hrow
      simp only [hσ] at hl hrow'
      clear hσ
      simp only [List.foldl_cons, List.foldl_nil, List.setIfInBounds_toArray, List.set_cons_zero, List.set_cons_succ] at hl
      obtain ⟨v9, hv9⟩ : ∃ v, σ 19 = v := ⟨_, rfl⟩
      rw [hv9] at hl hrow'
      clear hv9
      obtain ⟨A9, c9, e9, hc9, hr9⟩ := OwnK.read hrow'
      subst e9
      clear hrow'
      subst hl
      go_wp2_with fail
      go_meet
      exact ⟨A9, c9, rfl, hold, hr9, hc9⟩
  case rest =>
  obtain ⟨A9, c9, rfl, hb9, HRW, HNC⟩ := hcut
  obtain ⟨X, rfl⟩ : ∃ u, u = wc := ⟨_, rfl⟩
  have CX := Lib.hid (C8.out.below hb9.out)
  have RX := Lib.hid (R8.out.below hb9.out)
  have DX := Lib.hid (D8.out.below hb9.out)
  have SX : Hid (S4Box X g3 s) := Blk.below X8.out hb9.out (Blk.lt X8.out)
  clear hb9 C8 R8 D8 X8 HW HOB HOR
  obtain ⟨r0, r1, r2⟩ := RX.out.cells
  rw [HSV.out] at r1
  go_wp2_with fail
  clear r0 r1 r2
  go_loopw [20, 21, 22] (fun tv fv iv wr => ∃ (i : Nat) (done : List (Nat × Nat)) (F : Bool), i ≤ rx.n + 1 ∧ tv = .int .i64 (done.length : Int) ∧ fv = .bool F ∧ iv = .int .i64 (i : Int) ∧ Hid (Below X.heap.size X wr) ∧ Hid (posL sv rx.n = done ++ posL i rx.n) ∧ Hid (F = (decide (e1 = 0) && done.any (hereP s)))) (fun _ _ iv _ => rx.n + 1 - (intOf iv).toNat)
  case atStart => exact ⟨sv, [], false, by omega, rfl, rfl, rfl, Below.refl _ _, Lib.hid rfl, Lib.hid (by simp)⟩
  case round =>
    obtain ⟨i, done, F, hi, rfl, rfl, rfl, HB, HP, HF⟩ := hrel
    obtain ⟨r0, r1, r2⟩ := RBox.cells (RX.out.below HB.out)
    by_cases hin : i ≤ rx.n
    case neg =>
      have hdone : done = posL sv rx.n := by rw [HP.out, posL_end (by omega), List.append_nil]
      have hF : F = decide (e1 = 0) := by
        have h1 := HF.out
        rw [hdone, show posL sv rx.n = posL sv rx.rt.stops.length by rw [HXL.out], least_all HBE.out] at h1
        exact h1
      have htr : ((done.length : Int) == n1) = true := by rw [hdone, HN1.out]; simp
      have e1' : (rx.n : Int) < (i : Int) := by omega
      have CD0 := Lib.hid (CX.out.below HB.out)
      subst hF
      clear hdone HP HF r0 r1
      rcases HCD.out with h | h
      · subst h
        go_wp2_with fail
        refine (runs_any _).mono ?_
        rintro e wd ⟨rfl, hbd⟩
        have CD := Lib.hid (CD0.out.below hbd)
        clear hbd
        go_wp2_with fail
        go_ret
        exact ⟨by first | rfl | simp, CD.out.cr.old⟩
      · subst h
        go_wp2_with fail
        refine (runs_any _).mono ?_
        rintro e wd ⟨rfl, hbd⟩
        have CD := Lib.hid (CD0.out.below hbd)
        clear hbd
        go_wp2_with fail
        go_ret
        exact ⟨by first | rfl | simp, CD.out.cr.old⟩
    have HP1 : Hid (posL sv rx.n = done ++ (rowL i i rx.n ++ posL (i + 1) rx.n)) := by
      show _ = _
      rw [HP.out, posL_cons hin]
    have e1' : (i : Int) ≤ (rx.n : Int) := by omega
    clear HP
    go_wp2_with fail
    clear r0 r1 r2
    go_loopw [20, 21, 23] (fun tv fv jv wz => ∃ (j : Nat) (done : List (Nat × Nat)) (F : Bool), i ≤ j ∧ j ≤ rx.n + 1 ∧ tv = .int .i64 (done.length : Int) ∧ fv = .bool F ∧ jv = .int .i64 (j : Int) ∧ Hid (Below X.heap.size X wz) ∧ Hid (posL sv rx.n = done ++ (rowL i j rx.n ++ posL (i + 1) rx.n)) ∧ Hid (F = (decide (e1 = 0) && done.any (hereP s)))) (fun _ _ jv _ => rx.n + 1 - (intOf jv).toNat)
    case atStart => exact ⟨i, done, F, Nat.le_refl _, by omega, rfl, rfl, rfl, HB, HP1, HF⟩
    case round =>
      clear HB HP1 HF
      obtain ⟨j, done, F, hij, hj, rfl, rfl, rfl, HB, HP, HF⟩ := hrel
      obtain ⟨r0, r1, r2⟩ := RBox.cells (RX.out.below HB.out)
      by_cases hjn : j ≤ rx.n
      case neg =>
        have HE : Hid (posL sv rx.n = done ++ posL (i + 1) rx.n) := by
          show _ = _
          rw [HP.out, rowL_end (by omega), List.nil_append]
        have e2 : (rx.n : Int) < (j : Int) := by omega
        clear hjn r0 r1
        go_wp2_with fail
        go_roundw
        case rel => exact ⟨i + 1, done, F, by omega, by go_num, rfl, by go_num, HB, HE, HF⟩
        case measure => simp [intOf]; omega
      have HP2 : Hid (posL sv rx.n = done ++ (i, j) :: (rowL i (j + 1) rx.n ++ posL (i + 1) rx.n)) := by
        show _ = _
        rw [HP.out, rowL_cons hjn, List.cons_append]
      have HP3 : Hid (posL sv rx.n = (done ++ [(i, j)]) ++ (rowL i (j + 1) rx.n ++ posL (i + 1) rx.n)) := by
        show _ = _
        rw [HP2.out]
        simp
      have hdl : done.length ≤ 121 := by
        have h1 := HPL.out
        rw [HP2.out, List.length_append] at h1
        omega
      obtain ⟨tr, htr⟩ : ∃ t : Nat, done.length = t := ⟨_, rfl⟩
      have HTR := Lib.hid htr
      rw [htr] at hdl
      have e2 : (j : Int) ≤ (rx.n : Int) := by omega
      obtain ⟨t1, ht1⟩ : ∃ t : Nat, tr + 1 = t := ⟨_, rfl⟩
      have hks : (tr : Int) + 1 = (t1 : Int) := by omega
      have hkw : IntKind.i64.wrap (t1 : Int) = (t1 : Int) := IntWalk.i64_in _ (by omega)
      have HDL : Hid ((done ++ [(i, j)]).length = t1) := by show _ = _; rw [List.length_append, htr, ← ht1]; rfl
      rw [htr]
      have CW := Lib.hid (CX.out.below HB.out)
      obtain ⟨x0, x1, x2, x3, x4⟩ := CW.out.cr.wd.cells
      obtain ⟨o0, o1, o2, o3, o4, o5, o6, o7, o8, o9⟩ := CW.out.ord.cells
      obtain ⟨d0, d1, d2, d3, d4, d5⟩ := DBox.cells (DX.out.below HB.out)
      obtain ⟨cc, hcc⟩ : ∃ z, cost m d (os ++ [o]) (putM rx.rt.stops o.id i j) = z := ⟨_, rfl⟩
      have HCC := Lib.hid hcc
      have HFT : Hid (fits m d os rx.rt.stops o (i : Int) (j : Int) = cc.isSome) := by
        show _ = _
        rw [fits_cost ⟨hij, by rw [HXL.out]; exact hjn⟩ HFD.out HDRV.out, hcc]
      clear htr ht1 hcc HP
      go_wp2_with fail
      refine (gfits_any W.heap.size (.pointer q) m d x.os.a x.os.n x.os.c os rx.a rx.n rx.c rx.rt.stops o (i : Int) (j : Int) _ (by exact CW.out.cr.map) (by exact CW.out.cr.ords) (by exact Recs.more (Recs.keep HSX.out CW.out.cr.old) CW.out.cr.old.size) hcx x.os.h hn80 hrx).mono ?_
      rintro e w3 ⟨rfl, hb3⟩
      rw [HFT.out]
      have HB3 := Lib.hid (HB.out.trans (hb3.mono HB.out.size))
      have CW3 := Lib.hid (CW.out.below hb3)
      clear hb3 HB CW HFT x0 x1 x2 x3 x4 o0 o1 o2 o3 o4 o5 o6 o7 o8 o9 d0 d1 d2 d3 d4 d5 r0 r1 r2
      cases cc with
      | none =>
        have HF2 : Hid (F = (decide (e1 = 0) && (done ++ [(i, j)]).any (hereP s))) := by
          show _ = _
          have h1 := HF.out
          by_cases he : e1 = 0
          · rw [decide_eq_true he, Bool.true_and] at h1 ⊢
            rw [List.any_append, ← h1]
            have : hereP s (i, j) = false := by
              rcases HBE.out with ⟨_, h2⟩ | ⟨h3, _⟩
              · obtain ⟨k, hk, _⟩ := bestOf_some h2
                cases hh : hereP s (i, j) with
                | false => rfl
                | true =>
                  exfalso
                  rw [List.getElem?_map] at hk
                  cases hq : (posL sv rx.rt.stops.length)[k]? with
                  | none => rw [hq] at hk; cases hk
                  | some p =>
                    rw [hq] at hk
                    have hp : candP m d os o rx.rt.stops p = some s := by simpa using hk
                    obtain ⟨_, q1, q2, c, hc, _⟩ := cand_place hp
                    unfold hereP at hh
                    rw [decide_eq_true_eq] at hh
                    obtain ⟨p1, p2⟩ := p
                    simp only at q1 q2 hh hc
                    have e3 : p1 = i := by have := hh.1; omega
                    have e4 : p2 = j := by have := hh.2; omega
                    subst e3
                    subst e4
                    rw [HCC.out] at hc
                    cases hc
              · omega
            simp [this]
          · rw [decide_eq_false he, Bool.false_and] at h1 ⊢
            exact h1
        clear HF HCC
        go_wp2_with fail
        go_roundw
        case rel => exact ⟨j + 1, done ++ [(i, j)], F, by omega, by omega, by rw [HDL.out], rfl, by go_num, HB3, HP3, HF2⟩
        case measure => simp [intOf]; omega
      | some cv =>
      obtain ⟨he1, hl1, hl2, hl3⟩ := least_here HBE.out (by rw [HXL.out]; exact HP2.out) HCC.out HOC.out
      subst he1
      obtain ⟨hv1, hv2⟩ := cost_in HNR.out (show (putM rx.rt.stops o.id i j).length ≤ 100 by rw [putM_len hij (by rw [HXL.out]; exact hjn), HXL.out]; omega) HCC.out
      obtain ⟨hw1, hw2⟩ := old_bound (m := m) (d := d) (os := os) (stops := rx.rt.stops) HNR.out (by rw [HXL.out]; omega)
      rw [HOC.out] at hw1 hw2
      have HDB : Hid (∀ u, Below w3.heap.size w3 u → DBox u g2 d) := fun u hu => (DX.out.below HB3.out).below hu
      have HRB : Hid (∀ u, Below w3.heap.size w3 u → RBox u g1 rx) := fun u hu => (RX.out.below HB3.out).below hu
      have HOB : Hid (∀ u, Below w3.heap.size w3 u → OBox u (W.heap.size + 1) o) := fun u hu => (CW3.out.below hu).ord
      have HPT : Hid (∀ u, Below w3.heap.size w3 u → Calls Try.prog 23 #[.slice rx.a rx.n rx.c, .int .i64 o.id, .int .i64 ((i : Nat) : Int), .int .i64 ((j : Nat) : Int)] u fun en u' => ∃ v, en = .returned v ∧ Below u.heap.size u u' ∧ OwnK u' u.heap.size 36 2 v (rx.n + 2) (stpsV (putM rx.rt.stops o.id i j))) := fun u hu => by
        have h0 := (CW3.out.below hu).cr.old
        have h1 := gput_any rx.a rx.n rx.c rx.rt.stops o.id (i : Int) (j : Int) u (Recs.more (Recs.keep HSX.out h0) h0.size) hcx hrx
        rw [putR_nat hij (by rw [HXL.out]; exact hjn), putM_len hij (by rw [HXL.out]; exact hjn), HXL.out] at h1
        exact h1
      have HCS : Hid (∀ u A8 c8, rx.n + 2 ≤ c8 → Recs u u.heap.size A8 (rx.n + 2) 2 (stpsV (putM rx.rt.stops o.id i j)) → Below w3.heap.size w3 u → Calls Try.prog 21 #[.pointer q, drvV d, .slice A9 (x.os.n + 1) c9, .slice A8 (rx.n + 2) c8] u fun en u' => en = .returned (.tuple #[.int .i64 cv, .bool true]) ∧ Below u.heap.size u u') := fun u A8 c8 hc8 hr8 hu => by
        have h0 := (CW3.out.below hu).cr
        have h2 := HB3.out.trans (hu.mono HB3.out.size)
        have h1 := gcost_any W.heap.size (.pointer q) m d A9 (x.os.n + 1) c9 (os ++ [o]) A8 (rx.n + 2) c8 (putM rx.rt.stops o.id i j) u h0.map (Recs.more (Recs.keep HRW.out h2) h2.size) hr8 hc8 HNC.out
        rw [HCC.out] at h1
        exact h1
      clear hks hkw HCC
      go_upto_region 20 with fail
      go_cut [24, 25] from 122 to 135 (fun av kv wx => av = .int .i64 cv ∧ kv = .bool true ∧ Hid (Below w3.heap.size w3 wx))
      case first =>
        refine wp_region_steps (rowsRF w3.heap.size 2 36 [123, 124, 125, 126, 127, 128, 129, 130, 131, 132, 133, 122, 134, 135, 24, 25] [.pointer q, drvV d, .slice A9 (x.os.n + 1) c9, .pointer (some ⟨g1, 2, none⟩), .slice rx.a rx.n rx.c, .pointer (some ⟨W.heap.size + 1, 0, none⟩), .int .i64 o.id, .int .i64 ((i : Nat) : Int), .int .i64 ((j : Nat) : Int), undef, .tuple #[.int .i64 cv, .bool true], .tuple #[.int .i64 cv, .bool true], .int .i64 cv, .bool true, .int .i64 cv, .bool true] [(9, rx.n + 2, stpsV (putM rx.rt.stops o.id i j))]) (by kernel_rfl) (by kernel_rfl) (by kernel_rfl) (fun _ _ => rfl) (by kernel_rfl) rowsRF.mon ?_ ?_
        · refine ⟨?_, ?_, ?_, ?_, ?_, ?_, ?_, ?_, ?_, ?_, ?_, ?_, ?_, ?_, ?_, ?_, trivial⟩
          · exact rowsRF.pureStep rfl 123 rfl rfl (by simp) _ rfl (by kernel_rfl) fun listed a u D hI hr hn => exec_move (.inl rfl) (hI.out 9 (by kernel_rfl))
          · exact rowsRF.pureStep rfl 124 rfl rfl (by simp) _ rfl (by kernel_rfl) fun listed a u D hI hr hn => exec_load rfl (hI.out 13 (by kernel_rfl)) (run_load_dbx (HDB.out _ (OneR.below_drew hI.old)))
          · exact rowsRF.pureStep rfl 125 rfl rfl (by simp) _ rfl (by kernel_rfl) fun listed a u D hI hr hn => exec_move (.inl rfl) (hI.out 19 (by kernel_rfl))
          · exact rowsRF.pureStep rfl 126 rfl rfl (by simp) _ rfl (by kernel_rfl) fun listed a u D hI hr hn => op_field rfl (hI.out 12 (by kernel_rfl)) (by simp [go_sem])
          · exact rowsRF.pureStep rfl 127 rfl rfl (by simp) _ rfl (by kernel_rfl) fun listed a u D hI hr hn => exec_load rfl (rowsRF.val hI hr hn 3 (by kernel_rfl) rfl (by kernel_rfl) rfl) (run_load_ps (RBox.cells (HRB.out _ (OneR.below_drew hI.old))).2.2)
          · exact rowsRF.pureStep rfl 128 rfl rfl (by simp) _ rfl (by kernel_rfl) fun listed a u D hI hr hn => op_field rfl (hI.out 5 (by kernel_rfl)) (by simp [go_sem])
          · exact rowsRF.pureStep rfl 129 rfl rfl (by simp) _ rfl (by kernel_rfl) fun listed a u D hI hr hn => exec_load rfl (rowsRF.val hI hr hn 5 (by kernel_rfl) rfl (by kernel_rfl) rfl) (run_load_pi (HOB.out _ (OneR.below_drew hI.old)).cells.1)
          · exact rowsRF.pureStep rfl 130 rfl rfl (by simp) _ rfl (by kernel_rfl) fun listed a u D hI hr hn => exec_move (.inl rfl) (hI.out 22 (by kernel_rfl))
          · exact rowsRF.pureStep rfl 131 rfl rfl (by simp) _ rfl (by kernel_rfl) fun listed a u D hI hr hn => exec_move (.inl rfl) (hI.out 23 (by kernel_rfl))
          · refine rowsRF.callStep (n := rx.n + 2) (vs := stpsV (putM rx.rt.stops o.id i j)) rfl 132 rfl rfl (by simp) (by kernel_rfl) (Nat.le_refl _) fun listed a u D hI hr hn => ⟨_, _, ins_call4 rfl (rowsRF.val hI hr hn 4 (by kernel_rfl) rfl (by kernel_rfl) rfl) (rowsRF.val hI hr hn 6 (by kernel_rfl) rfl (by kernel_rfl) rfl) (rowsRF.val hI hr hn 7 (by kernel_rfl) rfl (by kernel_rfl) rfl) (rowsRF.val hI hr hn 8 (by kernel_rfl) rfl (by kernel_rfl) rfl) (by simp [go_sem]), HPT.out _ (OneR.below_drew hI.old)⟩
          · refine rowsRF.callV rfl 133 rfl rfl (by simp) _ rfl (by kernel_rfl) fun listed a u D hI hr hn => ?_
            obtain ⟨A8, c8, e8, hc8, hr8⟩ := rowsRF.row (n := rx.n + 2) (vs := stpsV (putM rx.rt.stops o.id i j)) hI hr hn 9 (by kernel_rfl) rfl (by kernel_rfl)
            exact ⟨_, _, ins_call4 rfl (rowsRF.val hI hr hn 0 (by kernel_rfl) rfl (by kernel_rfl) rfl) (rowsRF.val hI hr hn 1 (by kernel_rfl) rfl (by kernel_rfl) rfl) (rowsRF.val hI hr hn 2 (by kernel_rfl) rfl (by kernel_rfl) rfl) e8 (by simp [go_sem]), HCS.out u A8 c8 hc8 hr8 (OneR.below_drew hI.old)⟩
          · exact rowsRF.pureStep rfl 122 rfl rfl (by simp) _ rfl (by kernel_rfl) fun listed a u D hI hr hn => exec_move (.inl rfl) (rowsRF.val hI hr hn 10 (by kernel_rfl) rfl (by kernel_rfl) rfl)
          · exact rowsRF.pureStep rfl 134 rfl rfl (by simp) _ rfl (by kernel_rfl) fun listed a u D hI hr hn => exec_extract rfl (rowsRF.val hI hr hn 11 (by kernel_rfl) rfl (by kernel_rfl) rfl) rfl
          · exact rowsRF.pureStep rfl 135 rfl rfl (by simp) _ rfl (by kernel_rfl) fun listed a u D hI hr hn => exec_extract rfl (rowsRF.val hI hr hn 11 (by kernel_rfl) rfl (by kernel_rfl) rfl) rfl
          · exact rowsRF.pureStep rfl 24 rfl rfl (by simp) _ rfl (by kernel_rfl) fun listed a u D hI hr hn => exec_move (.inr rfl) (rowsRF.val hI hr hn 12 (by kernel_rfl) rfl (by kernel_rfl) rfl)
          · exact rowsRF.pureStep rfl 25 rfl rfl (by simp) _ rfl (by kernel_rfl) fun listed a u D hI hr hn => exec_move (.inr rfl) (rowsRF.val hI hr hn 13 (by kernel_rfl) rfl (by kernel_rfl) rfl)
        · intro listed a u D hI hall
          have eR0 : a.tmps.getD 24 undef = .int .i64 cv := (hI.fact 14 ⟨hall 14 (by simp), fun k hk => by cases hk⟩).1
          have eR1 : a.tmps.getD 25 undef = .bool true := (hI.fact 15 ⟨hall 15 (by simp), fun k hk => by cases hk⟩).1
          have hold := OneR.below_drew hI.old
          have hl := hI.fill [123, 124, 125, 126, 127, 128, 129, 130, 131, 132, 133, 122, 134, 135, 24, 25] (by kernel_rfl)
          clear hI hall
          obtain ⟨σ, hσ⟩ : ∃ σ : Nat → Value, ∀ t, a.tmps.getD t undef = σ t := ⟨_, fun _ => rfl⟩
          simp only [hσ] at hl eR0 eR1
          clear hσ
          simp only [List.foldl_cons, List.foldl_nil, List.setIfInBounds_toArray, List.set_cons_zero, List.set_cons_succ, eR0, eR1] at hl
          subst hl
          go_wp2_with fail
          go_meet
          exact ⟨rfl, rfl, hold⟩
      case rest =>
      obtain ⟨rfl, rfl, hb4⟩ := hcut
      obtain ⟨w4, rfl⟩ : ∃ u, u = wc := ⟨_, rfl⟩
      have HB4 := Lib.hid (HB3.out.trans (hb4.out.mono HB3.out.size))
      clear hb4 HB3 CW3 HDB HRB HOB HPT HCS
      obtain ⟨a0, a1, a2, a3⟩ := S4Box.cells (Blk.below SX.out HB4.out (Blk.lt SX.out))
      obtain ⟨pc, hpc⟩ : ∃ z, cv - ov = z := ⟨_, rfl⟩
      rw [hpc] at hl1 hl2 hl3
      have hp1 : -100000000 ≤ pc := by omega
      have hp2 : pc ≤ 100000000 := by omega
      have hpw : IntKind.i64.wrap pc = pc := IntWalk.i64_in _ (by omega)
      have hnl : ¬ pc < s.cost := by omega
      have HL2 := Lib.hid hl2
      have HL3 := Lib.hid hl3
      have HHE : Hid (hereP s (i, j) = ((s.pick == (i : Int)) && (s.drop == (j : Int)))) := by
        show _ = _
        unfold hereP
        by_cases q1 : s.pick = (i : Int) <;> by_cases q2 : s.drop = (j : Int) <;> simp [q1, q2]
      have HF0 : Hid (F = done.any (hereP s)) := by
        show _ = _
        have h1 := HF.out
        simpa using h1
      obtain ⟨hb, hhb⟩ : ∃ h, hereP s (i, j) = h := ⟨_, rfl⟩
      have HHB := Lib.hid hhb
      have HF2 : Hid ((F || hb) = (decide ((0 : Int) = 0) && (done ++ [(i, j)]).any (hereP s))) := by
        show _ = _
        rw [List.any_append, ← HF0.out, ← hhb]
        simp
      clear hhb hl1 hl2 hl3 hv1 hv2 hw1 hw2 HF
      go_upto_region 21 with fail
      go_cut [26] from 136 to 149 (fun bv wx => bv = .bool hb ∧ wx = w4)
      case first =>
        have h1 := HHE.out
        rw [HHB.out] at h1
        obtain ⟨b1, hb1⟩ : ∃ b, (s.pick == (i : Int)) = b := ⟨_, rfl⟩
        obtain ⟨b2, hb2⟩ : ∃ b, (s.drop == (j : Int)) = b := ⟨_, rfl⟩
        rw [hb1, hb2] at h1
        have H1 := Lib.hid h1
        clear h1
        cases b1 with
        | false =>
          go_wp2_with fail
          go_meet
          exact ⟨by rw [H1.out]; rfl, rfl⟩
        | true =>
          go_wp2_with fail
          go_meet
          exact ⟨by rw [H1.out]; first | rfl | simp, rfl⟩
      case rest =>
      obtain ⟨rfl, rfl⟩ := hcut
      obtain ⟨w4, rfl⟩ : ∃ u, u = wc := ⟨_, rfl⟩
      clear HHE
      cases hb with
      | true =>
        have heq : (pc != s.cost) = false := by have := HL2.out HHB.out; simpa using this
        clear HL2 HL3
        cases F with
        | true =>
          go_wp2_with fail
          go_roundw
          case rel => exact ⟨j + 1, done ++ [(i, j)], true, by omega, by omega, by rw [HDL.out], rfl, by go_num, HB4, HP3, HF2⟩
          case measure => simp [intOf]; omega
        | false =>
          go_wp2_with fail
          go_roundw
          case rel => exact ⟨j + 1, done ++ [(i, j)], true, by omega, by omega, by rw [HDL.out], rfl, by go_num, HB4, HP3, HF2⟩
          case measure => simp [intOf]; omega
      | false =>
        cases F with
        | true =>
          clear HL2 HL3
          go_wp2_with fail
          go_roundw
          case rel => exact ⟨j + 1, done ++ [(i, j)], true, by omega, by omega, by rw [HDL.out], rfl, by go_num, HB4, HP3, HF2⟩
          case measure => simp [intOf]; omega
        | false =>
          have hneq : (pc == s.cost) = false := by have := HL3.out HF0.out.symm HHB.out; simpa using this
          clear HL2 HL3
          go_wp2_with fail
          go_roundw
          case rel => exact ⟨j + 1, done ++ [(i, j)], false, by omega, by omega, by rw [HDL.out], rfl, by go_num, HB4, HP3, HF2⟩
          case measure => simp [intOf]; omega
theorem insertLeast_w (x : Wd) (o : FleetMath.Ord) (at_ who : Int) (W : World) (h : ∃ ts ds os ps, Frames.WdOk W x ts ds os ∧ Frames.PlnOk W x.pl.a x.pl.n x.pl.c ps) : Calls Try.prog 6 #[wdV x, ordV o, .int .i64 at_, .int .i64 who] W fun e w' => e = .returned (.bool true) ∧ Below W.heap.size W w' := by
  obtain ⟨ts, ds, os, ps, h1, h2⟩ := h
  exact insertLeast_walk x o at_ who ts ds os ps W h1.ts h1.ds h1.os h2.plns (by have := h2.le; have := h2.few; omega) h1.dsn h1.osn
#print axioms insertLeast_w
end Go.Proofs.Ytpigklkidagolaa.Insert
