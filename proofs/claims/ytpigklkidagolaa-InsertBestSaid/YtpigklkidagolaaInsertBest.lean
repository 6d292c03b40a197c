/-
  Any order on any route: InsertBest, walked. Written by tools/gen_insbestw.py.
-/
import Derived.Test.YtpigklkidagolaaInsertRs
import Derived.Test.YtpigklkidagolaaInsertUses
import Derived.Test.YtpigklkidagolaaFrameWorldP
namespace Go.Proofs.Ytpigklkidagolaa.Insert
open Go.ChangeShapes Go.WideShapes Go.ChangeAt Go.RowKit Go.Proofs.Ytpigklkidagolaa.Mem Go.Proofs.Ytpigklkidagolaa.GeoMath Go.Proofs.Ytpigklkidagolaa.FleetMath Go.Proofs.Ytpigklkidagolaa.PlanMath Go.Proofs.Ytpigklkidagolaa.CertMath Go.Proofs.Ytpigklkidagolaa.InsertMath Go.Proofs.Ytpigklkidagolaa.Rec Go.Proofs.Ytpigklkidagolaa.Geo Go.Proofs.Ytpigklkidagolaa.Span Go.Proofs.Ytpigklkidagolaa.Deal Go.Proofs.Ytpigklkidagolaa.Keep Go.Proofs.Ytpigklkidagolaa.Route Go.Proofs.Ytpigklkidagolaa.Plan Go.Proofs.Ytpigklkidagolaa.Cert
set_option linter.unusedVariables false
set_option linter.unusedSimpArgs false
set_option maxRecDepth 100000 in
set_option maxHeartbeats 16000000 in
theorem insertBest_walk (x : Wd) (o : FleetMath.Ord) (at_ who b : Int) (ts : List Int) (ds : List Drv) (os : List FleetMath.Ord) (ps : List RM) (W : World) (hts : Ints W W.heap.size x.ts.a x.ts.n ts) (hds : Drvs W W.heap.size x.ds.a x.ds.n ds) (hos : Ords W W.heap.size x.os.a x.os.n os) (hps : Plns W W.heap.size x.pl.a x.pl.n ps) (hn40 : x.pl.n * 40 ≤ 140737488351232) (hn48 : x.ds.n * 48 ≤ 140737488351232) (hn80 : x.os.n * 80 ≤ 140737488351232) :
    Calls Try.prog 4 #[wdV x, ordV o, .int .i64 at_, .int .i64 who, .int .i64 b] W fun e w' => e = .returned (.bool true) ∧ Below W.heap.size W w' := by
  have HTS := Lib.hid hts
  have HDS := Lib.hid hds
  have HOS := Lib.hid hos
  have HPS := Lib.hid hps
  clear hts hds hos hps
  obtain ⟨m, hm⟩ : ∃ m, mapOf x.n ts = m := ⟨_, rfl⟩
  have HM := Lib.hid hm
  clear hm
  obtain ⟨rx, hrx⟩ := OneIn.exists ps at_
  obtain ⟨d, hd⟩ := DrvAt.exists ds who
  obtain ⟨S, hS⟩ : ∃ z, bestM m d os rx.rt o b = z := ⟨_, rfl⟩
  have HRX := Lib.hid hrx
  have HDA := Lib.hid hd
  have HS := Lib.hid hS
  clear hS hrx hd
  obtain ⟨y, n1, e1⟩ := S
  obtain ⟨hb0, hw0, ho0⟩ := boxes_start (W := W) x o
  have HB0 := Lib.hid hb0
  have HW0 := Lib.hid hw0
  have HO0 := Lib.hid ho0
  clear hb0 hw0 ho0
  show Calls _ _ #[wdV x, .agg #[.int .i64 o.id, .int .i64 o.size, .int .i64 o.pick.place, .int .i64 o.pick.win.fr, .int .i64 o.pick.win.to, .int .i64 o.pick.serv, .int .i64 o.drop.place, .int .i64 o.drop.win.fr, .int .i64 o.drop.win.to, .int .i64 o.drop.serv], .int .i64 at_, .int .i64 who, .int .i64 b] _ _
  go_enter Try.func4, Try.ntmps4
  go_wp2_with fail
  refine (kmaps_any x ts _ (by exact Reads.more (Reads.keep HTS.out HB0.out) HB0.out.size)).mono ?_
  intro e w1 hmo
  have hb1 : Below _ _ w1 := hmo.1
  obtain ⟨q, r, rfl, hcr⟩ := CR.start (n0 := 0) HB0.out HW0.out HDS.out HOS.out HPS.out HM.out hmo
  have C1 : Hid (IR W q r m x ds os ps o w1) := ⟨hcr, HO0.out.below hb1⟩
  clear hmo hcr HB0 HW0 HO0 hb1
  obtain ⟨x0, x1, x2, x3, x4⟩ := C1.out.cr.wd.cells
  go_wp2_with fail
  refine (use_copy _ _ _ ps _ (by exact C1.out.cr.plns) hn40).mono ?_
  rintro e w2 ⟨Bw, kw, lw, rfl, hb2, hp2, he2⟩
  have C2 := Lib.hid (C1.out.below hb2)
  have P2 := Lib.hid hp2
  have EW := Lib.hid he2
  clear hb2 hp2 he2 C1 x0 x1 x2 x3 x4
  have HW2 : Hid (∀ u, Below w2.heap.size w2 u → WBox u W.heap.size x) := fun u hu => (C2.out.below hu).cr.wd
  have HON : Hid (∀ u, Below w2.heap.size w2 u → Calls Try.prog 15 #[.slice x.pl.a x.pl.n x.pl.c, .int .i64 at_] u fun e w' => e = .returned (rteV rx) ∧ Below u.heap.size u w') := fun u hu => kone_at HRX.out u (C2.out.below hu).cr.plns hn40
  have HDR : Hid (∀ u, Below w2.heap.size w2 u → Calls Try.prog 16 #[wdV x, .int .i64 who] u fun e w' => e = .returned (drvV d) ∧ Below u.heap.size u w') := fun u hu => kdriver_at x ds who d HDA.out u (C2.out.below hu).cr.drvs (by omega)
  go_upto_region 5 with fail
  go_cut [15, 16] (fun pv qv wx => ∃ g1 g2, pv = .pointer (some ⟨g1, 0, none⟩) ∧ qv = .pointer (some ⟨g2, 0, none⟩) ∧ Hid (Below w2.heap.size w2 wx) ∧ Hid (RBox wx g1 rx) ∧ Hid (DBox wx g2 d))
  case first =>
    refine wp_region_steps (boxesRF [34, 35, 36, 37, 38, 39, 40, 15, 16, 15, 16] [.pointer (some ⟨W.heap.size, 4, none⟩), .slice x.pl.a x.pl.n x.pl.c, .int .i64 at_, rteV rx, wdV x, .int .i64 who, drvV d] [⟨7, 9, 39, [.int .i64 0, .int .i64 0, .slice none 0 0], [.int .i64 rx.rt.drv, .int .i64 rx.rt.served, .slice rx.a rx.n rx.c]⟩, ⟨8, 10, 33, [.int .i64 0, .int .i64 0, .int .i64 0, .int .i64 0, .int .i64 0, .bool false], [.int .i64 d.id, .int .i64 d.room, .int .i64 d.home, .int .i64 d.win.fr, .int .i64 d.win.to, .bool d.retired]⟩]) (by kernel_rfl) (by kernel_rfl) (by kernel_rfl) (fun q hq => boxesRF.free (by kernel_rfl) q hq) (by kernel_rfl) boxesRF.mon ?_ ?_
    · refine ⟨?_, ?_, ?_, ?_, ?_, ?_, ?_, ?_, ?_, ?_, ?_, trivial⟩
      · exact boxesRF.pureStep rfl 34 rfl rfl (by simp) (by kernel_rfl) (by kernel_rfl) _ rfl fun listed a u D hI hr hn => op_field rfl (hI.out 5 (by kernel_rfl)) (by simp [go_sem])
      · exact boxesRF.pureStep rfl 35 rfl rfl (by simp) (by kernel_rfl) (by kernel_rfl) _ rfl fun listed a u D hI hr hn => exec_load rfl (boxesRF.val hI hr hn 0 (by kernel_rfl) (by kernel_rfl) (by kernel_rfl) rfl rfl) (run_load_sl _ (.inr (.inr rfl)) (HW2.out _ (OneR.below_drew hI.old)).cells.2.2.2.2)
      · exact boxesRF.pureStep rfl 36 rfl rfl (by simp) (by kernel_rfl) (by kernel_rfl) _ rfl fun listed a u D hI hr hn => exec_move (.inl rfl) (hI.out 2 (by kernel_rfl))
      · exact boxesRF.callStep rfl 37 rfl rfl (by simp) (by kernel_rfl) (by kernel_rfl) _ rfl fun listed a u D hI hr hn => ⟨_, _, op_call2 rfl (boxesRF.val hI hr hn 1 (by kernel_rfl) (by kernel_rfl) (by kernel_rfl) rfl rfl) (boxesRF.val hI hr hn 2 (by kernel_rfl) (by kernel_rfl) (by kernel_rfl) rfl rfl) (by simp [go_sem]), HON.out _ (OneR.below_drew hI.old)⟩
      · exact boxesRF.pureStep rfl 38 rfl rfl (by simp) (by kernel_rfl) (by kernel_rfl) _ rfl fun listed a u D hI hr hn => exec_load rfl (hI.out 5 (by kernel_rfl)) (run_load_wd (HW2.out _ (OneR.below_drew hI.old)))
      · exact boxesRF.pureStep rfl 39 rfl rfl (by simp) (by kernel_rfl) (by kernel_rfl) _ rfl fun listed a u D hI hr hn => exec_move (.inl rfl) (hI.out 3 (by kernel_rfl))
      · exact boxesRF.callStep rfl 40 rfl rfl (by simp) (by kernel_rfl) (by kernel_rfl) _ rfl fun listed a u D hI hr hn => ⟨_, _, op_call2 rfl (boxesRF.val hI hr hn 4 (by kernel_rfl) (by kernel_rfl) (by kernel_rfl) rfl rfl) (boxesRF.val hI hr hn 5 (by kernel_rfl) (by kernel_rfl) (by kernel_rfl) rfl rfl) (by simp [go_sem]), HDR.out _ (OneR.below_drew hI.old)⟩
      · exact boxesRF.allocStep rfl 15 rfl rfl (by simp) (b := ⟨7, 9, 39, [.int .i64 0, .int .i64 0, .slice none 0 0], [.int .i64 rx.rt.drv, .int .i64 rx.rt.served, .slice rx.a rx.n rx.c]⟩) (by kernel_rfl) fun a u => exec_art rfl
      · exact boxesRF.allocStep rfl 16 rfl rfl (by simp) (b := ⟨8, 10, 33, [.int .i64 0, .int .i64 0, .int .i64 0, .int .i64 0, .int .i64 0, .bool false], [.int .i64 d.id, .int .i64 d.room, .int .i64 d.home, .int .i64 d.win.fr, .int .i64 d.win.to, .bool d.retired]⟩) (by kernel_rfl) fun a u => exec_adr rfl
      · exact boxesRF.storeStep (b := ⟨7, 9, 39, [.int .i64 0, .int .i64 0, .slice none 0 0], [.int .i64 rx.rt.drv, .int .i64 rx.rt.served, .slice rx.a rx.n rx.c]⟩) rfl rfl (by kernel_rfl) (by kernel_rfl) (by kernel_rfl) rfl rfl rfl (by kernel_rfl) fun listed a u D hI hr hn g e1 hb => ⟨_, exec_store rfl e1 (boxesRF.val hI hr hn 3 (by kernel_rfl) (by kernel_rfl) (by kernel_rfl) rfl rfl) (run_store_rx hb rx), (((Only.refl _ _).set _ _).set _ _).set _ _, putRt_of hb rx⟩
      · exact boxesRF.storeStep (b := ⟨8, 10, 33, [.int .i64 0, .int .i64 0, .int .i64 0, .int .i64 0, .int .i64 0, .bool false], [.int .i64 d.id, .int .i64 d.room, .int .i64 d.home, .int .i64 d.win.fr, .int .i64 d.win.to, .bool d.retired]⟩) rfl rfl (by kernel_rfl) (by kernel_rfl) (by kernel_rfl) rfl rfl rfl (by kernel_rfl) fun listed a u D hI hr hn g e1 hb => ⟨_, exec_store rfl e1 (boxesRF.val hI hr hn 6 (by kernel_rfl) (by kernel_rfl) (by kernel_rfl) rfl rfl) (run_store_dx hb d), ((((((Only.refl _ _).set _ _).set _ _).set _ _).set _ _).set _ _).set _ _, putDr_of hb d⟩
    · intro listed a u D hI hall
      obtain ⟨g1, eB, hbx⟩ := boxesRF.box hI hall (b := ⟨7, 9, 39, [.int .i64 0, .int .i64 0, .slice none 0 0], [.int .i64 rx.rt.drv, .int .i64 rx.rt.served, .slice rx.a rx.n rx.c]⟩) 9 (by decide) (by kernel_rfl) (by kernel_rfl) (s := 15) rfl
      obtain ⟨g2, eC, hcx⟩ := boxesRF.box hI hall (b := ⟨8, 10, 33, [.int .i64 0, .int .i64 0, .int .i64 0, .int .i64 0, .int .i64 0, .bool false], [.int .i64 d.id, .int .i64 d.room, .int .i64 d.home, .int .i64 d.win.fr, .int .i64 d.win.to, .bool d.retired]⟩) 10 (by decide) (by kernel_rfl) (by kernel_rfl) (s := 16) rfl
      have hold := OneR.below_drew hI.old
      have hl := hI.fill [34, 35, 36, 37, 38, 39, 40, 15, 16] (by kernel_rfl)
      clear hI hall
      obtain ⟨σ, hσ⟩ : ∃ σ : Nat → Value, ∀ t, a.tmps.getD t undef = σ t := ⟨_, fun _ => rfl⟩
      simp only [hσ] at hl eB eC
      clear hσ
      simp only [List.foldl_cons, List.foldl_nil, List.setIfInBounds_toArray, List.set_cons_zero, List.set_cons_succ, eB, eC] at hl
      subst hl
      go_wp2_with fail
      go_meet
      exact ⟨g1, g2, rfl, rfl, hold, hbx, hcx⟩
  case rest =>
  obtain ⟨g1, g2, rfl, rfl, hb5, R5, D5⟩ := hcut
  obtain ⟨w5, rfl⟩ : ∃ u, u = wc := ⟨_, rfl⟩
  have C5 := Lib.hid (C2.out.below hb5.out)
  have P5 : Hid (Plns w5 w5.heap.size Bw x.pl.n lw) := (P2.out.keep hb5.out).more hb5.out.size
  clear hb5 C2 P2 HW2 HON HDR
  obtain ⟨x0, x1, x2, x3, x4⟩ := C5.out.cr.wd.cells
  obtain ⟨o0, o1, o2, o3, o4, o5, o6, o7, o8, o9⟩ := C5.out.ord.cells
  obtain ⟨r0, r1, r2⟩ := R5.out.cells
  obtain ⟨d0, d1, d2, d3, d4, d5⟩ := D5.out.cells
  have HPB : Hid (Calls Try.prog 17 #[.pointer q, drvV d, x.os.v, rteV rx, ordV o, .int .i64 b] w5 (Gives w5 (toldV (y, n1, e1)))) := by
    obtain ⟨hs, hc, hr⟩ := HRX.out.stops C5.out.cr.plns
    have h1 := pbest_any W.heap.size (.pointer q) m d x.os.a x.os.n x.os.c os rx o b w5 C5.out.cr.map C5.out.cr.ords hs hc x.os.h hn80 hr
    rw [HS.out] at h1
    exact h1
  go_wp2_with fail
  refine HPB.out.mono ?_
  rintro e w6 ⟨rfl, hb6⟩
  have hb6' : Below w5.heap.size w5 (w6.alloc (.cells #[.int .i64 y.drv, .int .i64 y.pick, .int .i64 y.drop, .int .i64 y.cost] 42)) := hb6.trans (((Below.refl _ _).alloc (Nat.le_refl _) _).mono hb6.size)
  have C6 := Lib.hid (C5.out.below hb6')
  have P6 : Hid (Plns (w6.alloc (.cells #[.int .i64 y.drv, .int .i64 y.pick, .int .i64 y.drop, .int .i64 y.cost] 42)) ((w6.alloc (.cells #[.int .i64 y.drv, .int .i64 y.pick, .int .i64 y.drop, .int .i64 y.cost] 42))).heap.size Bw x.pl.n lw) := (P5.out.keep hb6').more hb6'.size
  have D6 := Lib.hid (D5.out.below hb6')
  have X6 : Hid (S4Box (w6.alloc (.cells #[.int .i64 y.drv, .int .i64 y.pick, .int .i64 y.drop, .int .i64 y.cost] 42)) w6.heap.size y) := Blk.new w6 _ _
  clear hb6 hb6' C5 P5 R5 D5 HPB x0 x1 x2 x3 x4 o0 o1 o2 o3 o4 o5 o6 o7 o8 o9 r0 r1 r2 d0 d1 d2 d3 d4 d5
  go_upto_region 7 with fail
  obtain ⟨g3, hg3⟩ : ∃ g, w6.heap.size = g := ⟨_, rfl⟩
  obtain ⟨u6, hu6⟩ : ∃ u, (w6.alloc (.cells #[.int .i64 y.drv, .int .i64 y.pick, .int .i64 y.drop, .int .i64 y.cost] 42)) = u := ⟨_, rfl⟩
  rw [hg3, hu6] at X6
  rw [hu6] at C6 P6 D6
  rw [hg3, hu6]
  clear hg3 hu6
  obtain ⟨ry, hry⟩ := OneIn.exists lw at_
  have HRY := Lib.hid hry
  have HRR : Hid (ry.rt = rx.rt) := HRX.out.same hry EW.out
  clear hry
  have HW6 : Hid (∀ u, Below u6.heap.size u6 u → WBox u W.heap.size x) := fun u hu => (C6.out.below hu).cr.wd
  have HOB : Hid (∀ u, Below u6.heap.size u6 u → OBox u (W.heap.size + 1) o) := fun u hu => (C6.out.below hu).ord
  have HDB : Hid (∀ u, Below u6.heap.size u6 u → DBox u g2 d) := fun u hu => D6.out.below hu
  have HON : Hid (∀ u, Below u6.heap.size u6 u → Calls Try.prog 15 #[.slice Bw x.pl.n kw, .int .i64 at_] u fun e w' => e = .returned (rteV ry) ∧ Below u.heap.size u w') := fun u hu => kone_at HRY.out u ((P6.out.keep hu).more hu.size) hn40
  have HRB : Hid (∀ u, Below u6.heap.size u6 u → Calls Try.prog 18 #[.pointer r, drvV d, .slice x.os.a x.os.n x.os.c, rteV ry, ordV o, .int .i64 b] u fun e w' => e = .returned (toldV (y, n1, e1)) ∧ Below u.heap.size u w') := fun u hu => by
    obtain ⟨hs, hc, _⟩ := HRY.out.stops ((P6.out.keep hu).more hu.size)
    have h1 := rbest_any W.heap.size (.pointer r) m d x.os.a x.os.n x.os.c os ry o b u (C6.out.below hu).cr.rmap (C6.out.below hu).cr.ords hs hc
    rw [HRR.out, HS.out] at h1
    exact h1
  go_cut [20, 21, 22] (fun pv nv ev wx => ∃ gt, pv = .pointer (some ⟨gt, 0, none⟩) ∧ nv = .int .i64 n1 ∧ ev = .int .i64 e1 ∧ Hid (Below u6.heap.size u6 wx) ∧ Hid (S4Box wx gt y))
  case first =>
    refine wp_region_steps (boxesRF [54, 55, 56, 57, 58, 59, 60, 61, 62, 63, 53, 64, 65, 66, 20, 20, 21, 22] [.pointer r, drvV d, .pointer (some ⟨W.heap.size, 3, none⟩), .slice x.os.a x.os.n x.os.c, .slice Bw x.pl.n kw, .int .i64 at_, rteV ry, ordV o, .int .i64 b, toldV (y, n1, e1), toldV (y, n1, e1), sp4V y, .int .i64 n1, .int .i64 e1, undef, undef, .int .i64 n1, .int .i64 e1] [⟨14, 15, 42, [.int .i64 0, .int .i64 0, .int .i64 0, .int .i64 0], [.int .i64 y.drv, .int .i64 y.pick, .int .i64 y.drop, .int .i64 y.cost]⟩]) (by kernel_rfl) (by kernel_rfl) (by kernel_rfl) (fun q hq => boxesRF.free (by kernel_rfl) q hq) (by kernel_rfl) boxesRF.mon ?_ ?_
    · refine ⟨?_, ?_, ?_, ?_, ?_, ?_, ?_, ?_, ?_, ?_, ?_, ?_, ?_, ?_, ?_, ?_, ?_, ?_, trivial⟩
      · exact boxesRF.pureStep rfl 54 rfl rfl (by simp) (by kernel_rfl) (by kernel_rfl) _ rfl fun listed a u D hI hr hn => exec_move (.inl rfl) (hI.out 12 (by kernel_rfl))
      · exact boxesRF.pureStep rfl 55 rfl rfl (by simp) (by kernel_rfl) (by kernel_rfl) _ rfl fun listed a u D hI hr hn => exec_load rfl (hI.out 16 (by kernel_rfl)) (run_load_dbx (HDB.out _ (OneR.below_drew hI.old)))
      · exact boxesRF.pureStep rfl 56 rfl rfl (by simp) (by kernel_rfl) (by kernel_rfl) _ rfl fun listed a u D hI hr hn => op_field rfl (hI.out 5 (by kernel_rfl)) (by simp [go_sem])
      · exact boxesRF.pureStep rfl 57 rfl rfl (by simp) (by kernel_rfl) (by kernel_rfl) _ rfl fun listed a u D hI hr hn => exec_load rfl (boxesRF.val hI hr hn 2 (by kernel_rfl) (by kernel_rfl) (by kernel_rfl) rfl rfl) (run_load_sl _ (.inr (.inl rfl)) (HW6.out _ (OneR.below_drew hI.old)).cells.2.2.2.1)
      · exact boxesRF.pureStep rfl 58 rfl rfl (by simp) (by kernel_rfl) (by kernel_rfl) _ rfl fun listed a u D hI hr hn => exec_move (.inl rfl) (hI.out 14 (by kernel_rfl))
      · exact boxesRF.pureStep rfl 59 rfl rfl (by simp) (by kernel_rfl) (by kernel_rfl) _ rfl fun listed a u D hI hr hn => exec_move (.inl rfl) (hI.out 2 (by kernel_rfl))
      · exact boxesRF.callStep rfl 60 rfl rfl (by simp) (by kernel_rfl) (by kernel_rfl) _ rfl fun listed a u D hI hr hn => ⟨_, _, op_call2 rfl (boxesRF.val hI hr hn 4 (by kernel_rfl) (by kernel_rfl) (by kernel_rfl) rfl rfl) (boxesRF.val hI hr hn 5 (by kernel_rfl) (by kernel_rfl) (by kernel_rfl) rfl rfl) (by simp [go_sem]), HON.out _ (OneR.below_drew hI.old)⟩
      · exact boxesRF.pureStep rfl 61 rfl rfl (by simp) (by kernel_rfl) (by kernel_rfl) _ rfl fun listed a u D hI hr hn => exec_load rfl (hI.out 6 (by kernel_rfl)) (Slack.run_load_ord (HOB.out _ (OneR.below_drew hI.old)))
      · exact boxesRF.pureStep rfl 62 rfl rfl (by simp) (by kernel_rfl) (by kernel_rfl) _ rfl fun listed a u D hI hr hn => exec_move (.inl rfl) (hI.out 4 (by kernel_rfl))
      · exact boxesRF.callStep rfl 63 rfl rfl (by simp) (by kernel_rfl) (by kernel_rfl) _ rfl fun listed a u D hI hr hn => ⟨_, _, ins_call6 rfl (boxesRF.val hI hr hn 0 (by kernel_rfl) (by kernel_rfl) (by kernel_rfl) rfl rfl) (boxesRF.val hI hr hn 1 (by kernel_rfl) (by kernel_rfl) (by kernel_rfl) rfl rfl) (boxesRF.val hI hr hn 3 (by kernel_rfl) (by kernel_rfl) (by kernel_rfl) rfl rfl) (boxesRF.val hI hr hn 6 (by kernel_rfl) (by kernel_rfl) (by kernel_rfl) rfl rfl) (boxesRF.val hI hr hn 7 (by kernel_rfl) (by kernel_rfl) (by kernel_rfl) rfl rfl) (boxesRF.val hI hr hn 8 (by kernel_rfl) (by kernel_rfl) (by kernel_rfl) rfl rfl) (by simp [go_sem]), HRB.out _ (OneR.below_drew hI.old)⟩
      · exact boxesRF.pureStep rfl 53 rfl rfl (by simp) (by kernel_rfl) (by kernel_rfl) _ rfl fun listed a u D hI hr hn => exec_move (.inl rfl) (boxesRF.val hI hr hn 9 (by kernel_rfl) (by kernel_rfl) (by kernel_rfl) rfl rfl)
      · exact boxesRF.pureStep rfl 64 rfl rfl (by simp) (by kernel_rfl) (by kernel_rfl) _ rfl fun listed a u D hI hr hn => op_extract rfl (boxesRF.val hI hr hn 10 (by kernel_rfl) (by kernel_rfl) (by kernel_rfl) rfl rfl) rfl
      · exact boxesRF.pureStep rfl 65 rfl rfl (by simp) (by kernel_rfl) (by kernel_rfl) _ rfl fun listed a u D hI hr hn => op_extract rfl (boxesRF.val hI hr hn 10 (by kernel_rfl) (by kernel_rfl) (by kernel_rfl) rfl rfl) rfl
      · exact boxesRF.pureStep rfl 66 rfl rfl (by simp) (by kernel_rfl) (by kernel_rfl) _ rfl fun listed a u D hI hr hn => op_extract rfl (boxesRF.val hI hr hn 10 (by kernel_rfl) (by kernel_rfl) (by kernel_rfl) rfl rfl) rfl
      · exact boxesRF.allocStep rfl 20 rfl rfl (by simp) (b := ⟨14, 15, 42, [.int .i64 0, .int .i64 0, .int .i64 0, .int .i64 0], [.int .i64 y.drv, .int .i64 y.pick, .int .i64 y.drop, .int .i64 y.cost]⟩) (by kernel_rfl) fun a u => exec_asp4 rfl
      · exact boxesRF.storeStep (b := ⟨14, 15, 42, [.int .i64 0, .int .i64 0, .int .i64 0, .int .i64 0], [.int .i64 y.drv, .int .i64 y.pick, .int .i64 y.drop, .int .i64 y.cost]⟩) rfl rfl (by kernel_rfl) (by kernel_rfl) (by kernel_rfl) rfl rfl rfl (by kernel_rfl) fun listed a u D hI hr hn g e1 hb => ⟨_, exec_store rfl e1 (boxesRF.val hI hr hn 11 (by kernel_rfl) (by kernel_rfl) (by kernel_rfl) rfl rfl) (run_store_s4 hb y), ((((Only.refl _ _).set _ _).set _ _).set _ _).set _ _, putS4_of hb y⟩
      · exact boxesRF.pureStep rfl 21 rfl rfl (by simp) (by kernel_rfl) (by kernel_rfl) _ rfl fun listed a u D hI hr hn => exec_move (.inr rfl) (boxesRF.val hI hr hn 12 (by kernel_rfl) (by kernel_rfl) (by kernel_rfl) rfl rfl)
      · exact boxesRF.pureStep rfl 22 rfl rfl (by simp) (by kernel_rfl) (by kernel_rfl) _ rfl fun listed a u D hI hr hn => exec_move (.inr rfl) (boxesRF.val hI hr hn 13 (by kernel_rfl) (by kernel_rfl) (by kernel_rfl) rfl rfl)
    · intro listed a u D hI hall
      obtain ⟨gt, eB, hbx⟩ := boxesRF.box hI hall (b := ⟨14, 15, 42, [.int .i64 0, .int .i64 0, .int .i64 0, .int .i64 0], [.int .i64 y.drv, .int .i64 y.pick, .int .i64 y.drop, .int .i64 y.cost]⟩) 15 (by decide) (by kernel_rfl) (by kernel_rfl) (s := 20) rfl
      have eC : a.tmps.getD 21 undef = .int .i64 n1 := (hI.fact 16 ⟨hall 16 (by simp), fun k hk => by simp [boxesRF, BoxD.made] at hk⟩).1
      have eD : a.tmps.getD 22 undef = .int .i64 e1 := (hI.fact 17 ⟨hall 17 (by simp), fun k hk => by simp [boxesRF, BoxD.made] at hk⟩).1
      have hold := OneR.below_drew hI.old
      have hl := hI.fill [54, 55, 56, 57, 58, 59, 60, 61, 62, 63, 53, 64, 65, 66, 20, 21, 22] (by kernel_rfl)
      clear hI hall
      obtain ⟨σ, hσ⟩ : ∃ σ : Nat → Value, ∀ t, a.tmps.getD t undef = σ t := ⟨_, fun _ => rfl⟩
      simp only [hσ] at hl eB eC eD
      clear hσ
      simp only [List.foldl_cons, List.foldl_nil, List.setIfInBounds_toArray, List.set_cons_zero, List.set_cons_succ, eB, eC, eD] at hl
      subst hl
      go_wp2_with fail
      go_meet
      exact ⟨gt, rfl, rfl, rfl, hold, hbx⟩
  case rest =>
  obtain ⟨gt, rfl, rfl, rfl, hb7, Y7⟩ := hcut
  obtain ⟨w7, rfl⟩ : ∃ u, u = wc := ⟨_, rfl⟩
  have C7 := Lib.hid (C6.out.below hb7.out)
  have P7 : Hid (Plns w7 w7.heap.size Bw x.pl.n lw) := (P6.out.keep hb7.out).more hb7.out.size
  have X7 : Hid (S4Box w7 g3 y) := Blk.below X6.out hb7.out (Blk.lt X6.out)
  clear hb7 C6 P6 X6 D6 HW6 HOB HDB HON HRB
  obtain ⟨x0, x1, x2, x3, x4⟩ := C7.out.cr.wd.cells
  obtain ⟨a0, a1, a2, a3⟩ := X7.out.cells
  obtain ⟨c0, c1, c2, c3⟩ := Y7.out.cells
  go_wp2_with fail
  refine (use_routes (c := x.pl.c) (c' := kw) C7.out.cr.plns P7.out EW.out.symm).mono ?_
  rintro e wb ⟨rfl, hbb⟩
  have CB := Lib.hid (C7.out.below hbb)
  clear hbb C7 P7 x0 x1 x2 x3 x4 a0 a1 a2 a3 c0 c1 c2 c3 X7 Y7
  go_wp2_with fail
  refine (runs_any _).mono ?_
  rintro e wd ⟨rfl, hbd⟩
  have CD := Lib.hid (CB.out.below hbd)
  clear hbd CB
  go_wp2_with fail
  go_ret
  exact ⟨rfl, CD.out.cr.old⟩
theorem insertBest_w (x : Wd) (o : FleetMath.Ord) (at_ who b : Int) (W : World) (h : ∃ ts ds os ps, Frames.WdOk W x ts ds os ∧ Frames.PlnOk W x.pl.a x.pl.n x.pl.c ps) : Calls Try.prog 4 #[wdV x, ordV o, .int .i64 at_, .int .i64 who, .int .i64 b] W fun e w' => e = .returned (.bool true) ∧ Below W.heap.size W w' := by
  obtain ⟨ts, ds, os, ps, h1, h2⟩ := h
  exact insertBest_walk x o at_ who b ts ds os ps W h1.ts h1.ds h1.os h2.plns (by have := h2.le; have := h2.few; omega) h1.dsn h1.osn
#print axioms insertBest_w
end Go.Proofs.Ytpigklkidagolaa.Insert
