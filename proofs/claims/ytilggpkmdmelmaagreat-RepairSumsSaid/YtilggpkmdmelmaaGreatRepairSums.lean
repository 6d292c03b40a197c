import Derived.Test.YtilggpkmdmelmaaGreatRepairDs
import Derived.Test.YtilggpkmdmelmaaGreatRepairAs
import Derived.Test.YtilggpkmdmelmaaGreatPlanRights
import Derived.Test.YtilggpkmdmelmaaGreatFrameWorldP
import Derived.Test.YtilggpkmdmelmaaGreatRegions
import Derived.Test.YtilggpkmdmelmaaGreatCertOneW
namespace Go.Proofs.YtilggpkmdmelmaaGreat.RepairW
open Go.ChangeShapes Go.WideShapes Go.ChangeAt Go.RowKit Go.Proofs.YtilggpkmdmelmaaGreat.Mem Go.Proofs.YtilggpkmdmelmaaGreat.GeoMath Go.Proofs.YtilggpkmdmelmaaGreat.FleetMath Go.Proofs.YtilggpkmdmelmaaGreat.PlanMath Go.Proofs.YtilggpkmdmelmaaGreat.CertMath Go.Proofs.YtilggpkmdmelmaaGreat.AuditMath Go.Proofs.YtilggpkmdmelmaaGreat.InsertMath Go.Proofs.YtilggpkmdmelmaaGreat.RepairMath Go.Proofs.YtilggpkmdmelmaaGreat.Rec Go.Proofs.YtilggpkmdmelmaaGreat.Geo Go.Proofs.YtilggpkmdmelmaaGreat.Span Go.Proofs.YtilggpkmdmelmaaGreat.Deal Go.Proofs.YtilggpkmdmelmaaGreat.Keep Go.Proofs.YtilggpkmdmelmaaGreat.Route Go.Proofs.YtilggpkmdmelmaaGreat.Plan Go.Proofs.YtilggpkmdmelmaaGreat.Cert Go.Proofs.YtilggpkmdmelmaaGreat.Insert
set_option linter.unusedVariables false
set_option linter.unusedSimpArgs false
theorem total_told {m : Option Mp} {ds : List Drv} {os : List FleetMath.Ord} {p : List Rte} {cs : List (List Vis)} {fk : Nat} {fe : Int} (h : makeC m ds os p = (cs, fk, fe)) :
    (fe = 0 ∧ optV (totalM m ds os p) = .tuple #[.int .i64 (totalS m ds os p), .bool true]) ∨ (fe ≠ 0 ∧ optV (totalM m ds os p) = .tuple #[.int .i64 0, .bool false]) := by
  unfold totalM
  rw [h]
  by_cases he : fe = 0
  · exact .inl ⟨he, by rw [if_pos he]; rfl⟩
  · exact .inr ⟨he, by rw [if_neg he]; rfl⟩
set_option maxRecDepth 100000 in
set_option maxHeartbeats 16000000 in
theorem repairSums_walk (x : Wd) (ts : List Int) (ds : List Drv) (os : List FleetMath.Ord) (ps : List RM) (W : World) (hts : Ints W W.heap.size x.ts.a x.ts.n ts) (hds : Drvs W W.heap.size x.ds.a x.ds.n ds) (hos : Ords W W.heap.size x.os.a x.os.n os) (hps : Plns W W.heap.size x.pl.a x.pl.n ps) :
    Calls Tryz.prog 7 #[wdV x] W fun e w' => e = .returned (.bool true) ∧ Below W.heap.size W w' := by
  have hpn : x.pl.n ≤ 9223372036854775807 := Recs.le hps.rows
  have hdn : x.ds.n ≤ 9223372036854775807 := Recs.le hds
  have HLP := Lib.hid hps.length
  have HLD := Lib.hid hds.length
  have HTS := Lib.hid hts
  have HDS := Lib.hid hds
  have HOS := Lib.hid hos
  have HPS := Lib.hid hps
  clear hts hds hos hps
  obtain ⟨m, hm⟩ : ∃ m, mapOf x.n ts = m := ⟨_, rfl⟩
  have HM := Lib.hid hm
  clear hm
  obtain ⟨T, hT⟩ : ∃ z, totalM m ds os (ps.map (·.rt)) = z := ⟨_, rfl⟩
  have HT := Lib.hid hT
  obtain ⟨⟨cs, fk, fe⟩, hmk⟩ : ∃ z, makeC m ds os (ps.map (·.rt)) = z := ⟨_, rfl⟩
  have HMK := Lib.hid hmk
  have htold := total_told hmk
  rw [hT] at htold
  have HTD := Lib.hid htold
  clear hT hmk htold
  have HB0 : Hid (Below W.heap.size W (W.alloc (.cells #[.int .i64 x.n, x.ts.v, x.ds.v, x.os.v, x.pl.v] 54))) := (Below.refl _ _).alloc (Nat.le_refl _) _
  have HW0 := Lib.hid (WBox.new W x)
  go_enter Tryz.func7, Tryz.ntmps7
  go_wp2_with fail
  refine (kmaps_any x ts _ (by exact Reads.more (Reads.keep HTS.out HB0.out) HB0.out.size)).mono ?_
  intro e w1 hmo
  obtain ⟨q, r, rfl, hcr⟩ := CR.start (n0 := 0) HB0.out HW0.out HDS.out HOS.out HPS.out HM.out hmo
  have C1 := Lib.hid hcr
  clear hmo hcr HB0 HW0
  obtain ⟨x0, x1, x2, x3, x4⟩ := C1.out.wd.cells
  rcases HTD.out with ⟨hfe, htv⟩ | ⟨hfe, htv⟩
  case inr =>
    have HV := Lib.hid htv
    have HF := Lib.hid hfe
    have efe : (fe == 0) = false := by simpa using hfe
    clear htv hfe
    go_wp2_with fail
    refine (use_total C1.out HT.out).mono ?_
    rintro e w2 ⟨rfl, hb2⟩
    rw [HV.out]
    have C2 := Lib.hid (C1.out.below hb2)
    clear hb2 C1 x0 x1 x2 x3 x4
    obtain ⟨x0, x1, x2, x3, x4⟩ := C2.out.wd.cells
    go_wp2_with fail
    refine (use_make3 C2.out HMK.out).mono ?_
    rintro e w3 ⟨Ba, na, ca, rfl, hb3⟩
    have C4 : Hid (CR W q r m x ds os ps (w3.alloc (.cells #[.int .i64 (fk : Int), .int .i64 fe] 63))) := (C2.out.below hb3).below ((Below.refl _ _).alloc (Nat.le_refl _) _)
    have F4 : Hid (Blk (w3.alloc (.cells #[.int .i64 (fk : Int), .int .i64 fe] 63)) w3.heap.size 63 [.int .i64 (fk : Int), .int .i64 fe]) := Blk.new w3 _ _
    clear hb3 C2 x0 x1 x2 x3 x4
    go_upto_region 6 with fail
    obtain ⟨g4, hg4⟩ : ∃ g, w3.heap.size = g := ⟨_, rfl⟩
    obtain ⟨u4, hu4⟩ : ∃ u, (w3.alloc (.cells #[.int .i64 (fk : Int), .int .i64 fe] 63)) = u := ⟨_, rfl⟩
    rw [hg4, hu4] at F4
    rw [hu4] at C4
    rw [hg4, hu4]
    clear hg4 hu4
    have k0 := Blk.cell (i := 0) F4.out rfl
    have k1 := Blk.cell (i := 1) F4.out rfl
    go_wp2_with fail
    refine (fgood_any fk fe _).mono ?_
    rintro e X ⟨rfl, hb5⟩
    rw [efe]
    have CX := Lib.hid (C4.out.below hb5)
    clear hb5 C4 F4 k0 k1
    go_wp2_with fail
    refine (truns_any _).mono ?_
    rintro e wd ⟨rfl, hbd⟩
    have CD := Lib.hid (CX.out.below hbd)
    clear hbd
    go_wp2_with fail
    go_ret
    exact ⟨by first | rfl | simp, CD.out.old⟩
  obtain ⟨Z, hZ⟩ : ∃ z, totalS m ds os (ps.map (·.rt)) = z := ⟨_, rfl⟩
  rw [hZ] at htv
  have HZ := Lib.hid hZ
  have HV := Lib.hid htv
  subst hfe
  clear htv hZ
  have hgood := make_zero.1 (show (makeC m ds os (ps.map (·.rt))).2.2 = 0 by rw [HMK.out])
  obtain ⟨m', _, _, _, hrp, _, hD⟩ := wellC_parts hgood.1
  have HG := Lib.hid hgood.2
  have HRP := Lib.hid hrp
  have HDD0 := Lib.hid hD
  clear hgood hrp hD
  go_wp2_with fail
  refine (use_total C1.out HT.out).mono ?_
  rintro e w2 ⟨rfl, hb2⟩
  rw [HV.out]
  have C2 := Lib.hid (C1.out.below hb2)
  clear hb2 C1 x0 x1 x2 x3 x4
  obtain ⟨x0, x1, x2, x3, x4⟩ := C2.out.wd.cells
  go_wp2_with fail
  refine (use_make3 C2.out HMK.out).mono ?_
  rintro e w3 ⟨Ba, na, ca', rfl, hb3⟩
  have C4 : Hid (CR W q r m x ds os ps (w3.alloc (.cells #[.int .i64 (fk : Int), .int .i64 0] 63))) := (C2.out.below hb3).below ((Below.refl _ _).alloc (Nat.le_refl _) _)
  have F4 : Hid (Blk (w3.alloc (.cells #[.int .i64 (fk : Int), .int .i64 0] 63)) w3.heap.size 63 [.int .i64 (fk : Int), .int .i64 0]) := Blk.new w3 _ _
  clear hb3 C2 x0 x1 x2 x3 x4
  go_upto_region 6 with fail
  obtain ⟨g4, hg4⟩ : ∃ g, w3.heap.size = g := ⟨_, rfl⟩
  obtain ⟨X, hu4⟩ : ∃ u, (w3.alloc (.cells #[.int .i64 (fk : Int), .int .i64 0] 63)) = u := ⟨_, rfl⟩
  rw [hg4, hu4] at F4
  rw [hu4] at C4
  rw [hg4, hu4]
  clear hg4 hu4
  obtain ⟨G, hGq⟩ : ∃ g, uptoS m ds os (ps.map (·.rt)) = g := ⟨_, rfl⟩
  have HGQ := Lib.hid hGq
  have HG0 : Hid (G 0 = 0) := by show _ = _; rw [← hGq]; exact upto_zero
  have HGE : Hid (G x.pl.n = Z) := by show _ = _; rw [← hGq, ← HZ.out]; exact upto_all (by rw [List.length_map, HLP.out]; exact Nat.le_refl _)
  have HGB : Hid (∀ k, 0 ≤ G k ∧ G k ≤ 800000000) := by show ∀ k, _; intro k; rw [← hGq]; exact upto_bound (near C4.out.map) HRP.out k
  clear hGq
  go_wp2_with fail
  go_loopw [10, 11] (fun sv iv wr => ∃ i : Nat, i ≤ x.pl.n ∧ sv = .int .i64 (G i) ∧ iv = .int .i64 (i : Int) ∧ Hid (Below X.heap.size X wr)) (fun _ iv _ => x.pl.n - (intOf iv).toNat)
  case atStart => exact ⟨0, Nat.zero_le _, by rw [HG0.out], rfl, Below.refl _ _⟩
  case round =>
    obtain ⟨i, hi, rfl, rfl, HB⟩ := hrel
    by_cases hilt : i < x.pl.n
    case neg =>
      have hie : i = x.pl.n := by omega
      subst hie
      have hGE := HGE.out
      rw [hGE]
      have CW := Lib.hid (C4.out.below HB.out)
      have F5 := Lib.hid (Blk.below F4.out HB.out (Blk.lt F4.out))
      obtain ⟨x0, x1, x2, x3, x4⟩ := CW.out.wd.cells
      have k0 := Blk.cell (i := 0) F5.out rfl
      have k1 := Blk.cell (i := 1) F5.out rfl
      clear hGE
      go_wp2_with fail
      refine (fgood_any fk 0 _).mono ?_
      rintro e X' ⟨rfl, hb5⟩
      have CX := Lib.hid (CW.out.below hb5)
      clear hb5 CW F5 k0 k1 x0 x1 x2 x3 x4
      have ezz : (Z == Z) = true := by simp
      go_wp2_with fail
      refine (truns_any _).mono ?_
      rintro e wd ⟨rfl, hbd⟩
      have CD := Lib.hid (CX.out.below hbd)
      clear hbd
      go_wp2_with fail
      go_ret
      exact ⟨by first | rfl | simp, CD.out.old⟩
    have hii : (i : Int) < (x.pl.n : Int) := by omega
    have CW0 := Lib.hid (C4.out.below HB.out)
    obtain ⟨pb, off, z1, hPA, _, hz1, _, _, _, _, hst1, hc1⟩ := CW0.out.pl0.at_ hilt
    have HPA := Lib.hid hPA
    have HZ1 := Lib.hid hz1
    have HP1 : Hid ((ps.map (·.rt))[i]? = some z1.rt) := by show _ = _; rw [List.getElem?_map, hz1]; rfl
    obtain ⟨g, hg⟩ : ∃ g, (fun k => G i + partS m ds os z1.rt k) = g := ⟨_, rfl⟩
    have HQ := Lib.hid hg
    have HQ0 : Hid (G i = g 0) := by show _ = _; rw [← hg]; simp only [part_zero]; omega
    have HQE : Hid (g x.ds.n = G (i + 1)) := by
      show _ = _
      rw [← hg, ← HGQ.out, upto_next HP1.out]
      simp only
      rw [part_all (by rw [HLD.out]; exact Nat.le_refl _)]
    clear hPA hz1 hst1 hg CW0
    obtain ⟨x0, x1, x2, x3, x4⟩ := (C4.out.below HB.out).wd.cells
    go_wp2_with fail
    clear x0 x1 x2 x3 x4
    go_loopw [10, 12] (fun sv kv wz => ∃ k : Nat, k ≤ x.ds.n ∧ sv = .int .i64 (g k) ∧ kv = .int .i64 (k : Int) ∧ Hid (Below X.heap.size X wz)) (fun _ kv _ => x.ds.n - (intOf kv).toNat)
    case atStart => exact ⟨0, Nat.zero_le _, by rw [HQ0.out], rfl, HB⟩
    case round =>
      clear HB
      obtain ⟨k, hk, rfl, rfl, HB⟩ := hrel
      have CW := Lib.hid (C4.out.below HB.out)
      obtain ⟨x0, x1, x2, x3, x4⟩ := CW.out.wd.cells
      by_cases hklt : k < x.ds.n
      case neg =>
        have hke : k = x.ds.n := by omega
        subst hke
        have hQE := HQE.out
        rw [hQE]
        clear hQE
        go_wp2_with fail
        go_roundw
        case rel => exact ⟨i + 1, by omega, rfl, by go_num, HB⟩
        case measure => simp [intOf]; omega
      obtain ⟨db, doff, d, hDA, _, hd, _, _, _, _, _, _, _⟩ := Drvs.at_ CW.out.ds0 hklt
      have HDD := Lib.hid hd
      have HDA := Lib.hid hDA
      have HC0 : Hid (∀ u, Below wr.heap.size wr u → (u.cell? ⟨W.heap.size, 2, none⟩ = some (.slice (some ⟨db, doff, none⟩) x.ds.n x.ds.c) ∧ u.cell? ⟨W.heap.size, 3, none⟩ = some (.slice x.os.a x.os.n x.os.c) ∧ u.cell? ⟨W.heap.size, 4, none⟩ = some (.slice (some ⟨pb, off, none⟩) x.pl.n x.pl.c)) ∧ (u.cell? ⟨db, doff + k * 6, none⟩ = some (.int .i64 d.id) ∧ u.cell? ⟨db, doff + k * 6 + 1, none⟩ = some (.int .i64 d.room) ∧ u.cell? ⟨db, doff + k * 6 + 2, none⟩ = some (.int .i64 d.home) ∧ u.cell? ⟨db, doff + k * 6 + 3, none⟩ = some (.int .i64 d.win.fr) ∧ u.cell? ⟨db, doff + k * 6 + 4, none⟩ = some (.int .i64 d.win.to) ∧ u.cell? ⟨db, doff + k * 6 + 5, none⟩ = some (.bool d.retired)) ∧ (u.cell? ⟨pb, off + i * 3, none⟩ = some (.int .i64 z1.rt.drv) ∧ u.cell? ⟨pb, off + i * 3 + 1, none⟩ = some (.int .i64 z1.rt.served) ∧ u.cell? ⟨pb, off + i * 3 + 2, none⟩ = some (.slice z1.a z1.n z1.c))) := fun u hu => by
        have hcu := CW.out.below hu
        obtain ⟨_, _, y2, y3, y4⟩ := hcu.wd.cells
        obtain ⟨b', off', o', e', _, ho', _, c0, c1, c2, c3, c4, c5⟩ := Drvs.at_ hcu.drvs hklt
        rw [HDA.out] at e'
        injection e' with e'
        injection e' with e1 e2
        subst e1; subst e2
        rw [HDD.out] at ho'
        injection ho' with ho'
        subst ho'
        obtain ⟨b', off', o', e', _, ho', _, k0, k1, k2, _, _⟩ := hcu.plns.at_ hilt
        rw [HPA.out] at e'
        injection e' with e'
        injection e' with e1 e2
        subst e1; subst e2
        rw [HZ1.out] at ho'
        injection ho' with ho'
        subst ho'
        refine ⟨⟨?_, y3, ?_⟩, ⟨c0, c1, c2, c3, c4, c5⟩, ⟨k0, k1, k2⟩⟩
        · rw [y2]; show some (Value.slice x.ds.a x.ds.n x.ds.c) = _; rw [HDA.out]
        · rw [y4]; show some (Value.slice x.pl.a x.pl.n x.pl.c) = _; rw [HPA.out]
      have hkk : (k : Int) < (x.ds.n : Int) := by omega
      clear hd hDA
      go_upto_region 15 with fail
      clear x0 x1 x2 x3 x4
      obtain ⟨⟨y2, y3, y4⟩, ⟨c0, c1, c2, c3, c4, c5⟩, ⟨k0, k1, k2⟩⟩ := HC0.out _ (Below.refl _ _)
      obtain ⟨eb, heb⟩ : ∃ b, (d.id == z1.rt.drv) = b := ⟨_, rfl⟩
      go_cut [83] from 71 to 82 (fun bv wx => bv = .bool eb ∧ Hid (Below wr.heap.size wr wx))
      case first =>
        go_quiet (fail)
        all_goals
          go_wp2_with fail
          go_meet
          exact ⟨by first | rfl | rw [heb], Lib.hid (below_drewN (Below.refl _ _) _)⟩
      case rest =>
      obtain ⟨rfl, hb5⟩ := hcut
      obtain ⟨w5, rfl⟩ : ∃ u, u = wc := ⟨_, rfl⟩
      have HB5 := Lib.hid (HB.out.trans (hb5.out.mono HB.out.size))
      clear y2 y3 y4 c0 c1 c2 c3 c4 c5 k0 k1 k2
      cases eb with
      | false =>
        have hne : d.id ≠ z1.rt.drv := by simpa using heb
        have hgk : g k = g (k + 1) := by rw [← HQ.out]; simp only; rw [part_skip HDD.out hne]
        rw [hgk]
        clear heb HC0 hb5 HB CW hne hgk
        go_wp2_with fail
        go_roundw
        case rel => exact ⟨k + 1, by omega, rfl, by go_num, HB5⟩
        case measure => simp [intOf]; omega
      | true =>
      have hdz : d.id = z1.rt.drv := by simpa using heb
      obtain ⟨hp0, hp1⟩ := part_next (m := m) (os := os) HDD0.out HDD.out hdz
      obtain ⟨ca, hca⟩ : ∃ c, cost m d os z1.rt.stops = some c := by
        obtain ⟨d', h1, h2⟩ := HG.out z1.rt (List.mem_of_getElem? HP1.out)
        have h3 := drv_one HDD0.out HDD.out
        rw [hdz, h1] at h3
        injection h3 with h3
        subst h3
        exact cost_some h2
      have hol : oldC m d os z1.rt.stops = ca := by unfold oldC; rw [hca]; rfl
      have hsum : g k + ca = g (k + 1) := by rw [← HQ.out]; simp only; rw [hp0, hp1, hol]; omega
      have hbd : 0 ≤ g k ∧ g k ≤ 800000000 ∧ 0 ≤ ca ∧ ca ≤ 100000000 := by
        obtain ⟨h1, h2⟩ := HGB.out i
        have h3 : g k = G i := by rw [← HQ.out]; simp only; rw [hp0]; omega
        obtain ⟨_, _, _, _, h80, _⟩ := drive_fine (cost_drive hca)
        obtain ⟨h4, h5⟩ := cost_in (near CW.out.map) (by omega) hca
        exact ⟨by omega, by omega, h4, h5⟩
      have HSM := Lib.hid hsum
      have HBD := Lib.hid hbd
      have HC : Hid (∀ u, Below w5.heap.size w5 u → (u.cell? ⟨W.heap.size, 2, none⟩ = some (.slice (some ⟨db, doff, none⟩) x.ds.n x.ds.c) ∧ u.cell? ⟨W.heap.size, 3, none⟩ = some (.slice x.os.a x.os.n x.os.c) ∧ u.cell? ⟨W.heap.size, 4, none⟩ = some (.slice (some ⟨pb, off, none⟩) x.pl.n x.pl.c)) ∧ (u.cell? ⟨db, doff + k * 6, none⟩ = some (.int .i64 d.id) ∧ u.cell? ⟨db, doff + k * 6 + 1, none⟩ = some (.int .i64 d.room) ∧ u.cell? ⟨db, doff + k * 6 + 2, none⟩ = some (.int .i64 d.home) ∧ u.cell? ⟨db, doff + k * 6 + 3, none⟩ = some (.int .i64 d.win.fr) ∧ u.cell? ⟨db, doff + k * 6 + 4, none⟩ = some (.int .i64 d.win.to) ∧ u.cell? ⟨db, doff + k * 6 + 5, none⟩ = some (.bool d.retired)) ∧ (u.cell? ⟨pb, off + i * 3, none⟩ = some (.int .i64 z1.rt.drv) ∧ u.cell? ⟨pb, off + i * 3 + 1, none⟩ = some (.int .i64 z1.rt.served) ∧ u.cell? ⟨pb, off + i * 3 + 2, none⟩ = some (.slice z1.a z1.n z1.c))) := fun u hu => HC0.out u (hb5.out.trans (hu.mono hb5.out.size))
      have HK1 : Hid (∀ u, Below w5.heap.size w5 u → Calls Tryz.prog 22 #[.pointer q, drvV d, .slice x.os.a x.os.n x.os.c, .slice z1.a z1.n z1.c] u fun en u' => en = .returned (.tuple #[.int .i64 ca, .bool true]) ∧ Below u.heap.size u u') := fun u hu => by
        have h0 := (CW.out.below hb5.out).below hu
        have h1 := gcost_any W.heap.size (.pointer q) m d x.os.a x.os.n x.os.c os z1.a z1.n z1.c z1.rt.stops u h0.map h0.ords (Recs.more (Recs.keep (HPS.out.each z1 (List.mem_of_getElem? HZ1.out)).1 h0.old) h0.old.size) hc1 x.os.h
        rw [hca] at h1
        exact h1
      clear heb hdz hca hp0 hp1 hol hsum hbd HC0 hb5 HB CW
      go_upto_region 16 with fail
      go_cut [13, 14] from 84 to 101 (fun av bv wx => av = .int .i64 ca ∧ bv = .bool true ∧ Hid (Below w5.heap.size w5 wx))
      case first =>
        refine wp_region_steps (valRF [85, 86, 87, 88, 89, 90, 91, 92, 93, 94, 95, 96, 97, 98, 99, 84, 100, 101, 13, 14] [.pointer q, .pointer (some ⟨W.heap.size, 2, none⟩), .slice (some ⟨db, doff, none⟩) x.ds.n x.ds.c, .int .i64 ((k : Nat) : Int), .pointer (some ⟨db, doff + k * 6, none⟩), drvV d, .pointer (some ⟨W.heap.size, 3, none⟩), .slice x.os.a x.os.n x.os.c, .pointer (some ⟨W.heap.size, 4, none⟩), .slice (some ⟨pb, off, none⟩) x.pl.n x.pl.c, .int .i64 ((i : Nat) : Int), .pointer (some ⟨pb, off + i * 3, none⟩), .pointer (some ⟨pb, off + i * 3 + 2, none⟩), .slice z1.a z1.n z1.c, .tuple #[.int .i64 ca, .bool true], .tuple #[.int .i64 ca, .bool true], .int .i64 ca, .bool true, .int .i64 ca, .bool true]) (by kernel_rfl) (by kernel_rfl) (by kernel_rfl) (fun _ _ => rfl) (by kernel_rfl) valRF.mon ?_ ?_
        · refine ⟨?_, ?_, ?_, ?_, ?_, ?_, ?_, ?_, ?_, ?_, ?_, ?_, ?_, ?_, ?_, ?_, ?_, ?_, ?_, ?_, trivial⟩
          · exact valRF.pureStep rfl 85 rfl rfl (by simp) _ rfl fun listed a u D hI hr hn => exec_move (.inl rfl) (hI.out 3 (by kernel_rfl))
          · exact valRF.pureStep rfl 86 rfl rfl (by simp) _ rfl fun listed a u D hI hr hn => op_field rfl (hI.out 1 (by kernel_rfl)) (by simp [go_sem])
          · exact valRF.pureStep rfl 87 rfl rfl (by simp) _ rfl fun listed a u D hI hr hn => exec_load rfl (valRF.val hI hr hn 1 (by kernel_rfl) rfl rfl) (run_load_sl _ (.inl rfl) (HC.out _ (OneR.below_drew hI.old)).1.1)
          · exact valRF.pureStep rfl 88 rfl rfl (by simp) _ rfl fun listed a u D hI hr hn => exec_move (.inl rfl) (hI.out 12 (by kernel_rfl))
          · exact valRF.pureStep rfl 89 rfl rfl (by simp) _ rfl fun listed a u D hI hr hn => exec_index_drv rfl (valRF.val hI hr hn 2 (by kernel_rfl) rfl rfl) (valRF.val hI hr hn 3 (by kernel_rfl) rfl rfl) hklt hdn
          · exact valRF.pureStep rfl 90 rfl rfl (by simp) _ rfl fun listed a u D hI hr hn => exec_load rfl (valRF.val hI hr hn 4 (by kernel_rfl) rfl rfl) (run_load_dx (HC.out _ (OneR.below_drew hI.old)).2.1)
          · exact valRF.pureStep rfl 91 rfl rfl (by simp) _ rfl fun listed a u D hI hr hn => op_field rfl (hI.out 1 (by kernel_rfl)) (by simp [go_sem])
          · exact valRF.pureStep rfl 92 rfl rfl (by simp) _ rfl fun listed a u D hI hr hn => exec_load rfl (valRF.val hI hr hn 6 (by kernel_rfl) rfl rfl) (run_load_sl _ (.inr (.inl rfl)) (HC.out _ (OneR.below_drew hI.old)).1.2.1)
          · exact valRF.pureStep rfl 93 rfl rfl (by simp) _ rfl fun listed a u D hI hr hn => op_field rfl (hI.out 1 (by kernel_rfl)) (by simp [go_sem])
          · exact valRF.pureStep rfl 94 rfl rfl (by simp) _ rfl fun listed a u D hI hr hn => exec_load rfl (valRF.val hI hr hn 8 (by kernel_rfl) rfl rfl) (run_load_sl _ (.inr (.inr rfl)) (HC.out _ (OneR.below_drew hI.old)).1.2.2)
          · exact valRF.pureStep rfl 95 rfl rfl (by simp) _ rfl fun listed a u D hI hr hn => exec_move (.inl rfl) (hI.out 11 (by kernel_rfl))
          · exact valRF.pureStep rfl 96 rfl rfl (by simp) _ rfl fun listed a u D hI hr hn => exec_index_rte rfl (valRF.val hI hr hn 9 (by kernel_rfl) rfl rfl) (valRF.val hI hr hn 10 (by kernel_rfl) rfl rfl) hilt hpn
          · exact valRF.pureStep rfl 97 rfl rfl (by simp) _ rfl fun listed a u D hI hr hn => op_field rfl (valRF.val hI hr hn 11 (by kernel_rfl) rfl rfl) (by simp [go_sem])
          · exact valRF.pureStep rfl 98 rfl rfl (by simp) _ rfl fun listed a u D hI hr hn => exec_load rfl (valRF.val hI hr hn 12 (by kernel_rfl) rfl rfl) (run_load_ps (HC.out _ (OneR.below_drew hI.old)).2.2.2.2)
          · exact valRF.callStep rfl 99 rfl rfl (by simp) _ rfl fun listed a u D hI hr hn => ⟨_, _, ins_call4 rfl (valRF.val hI hr hn 0 (by kernel_rfl) rfl rfl) (valRF.val hI hr hn 5 (by kernel_rfl) rfl rfl) (valRF.val hI hr hn 7 (by kernel_rfl) rfl rfl) (valRF.val hI hr hn 13 (by kernel_rfl) rfl rfl) (by simp [go_sem]), HK1.out _ (OneR.below_drew hI.old)⟩
          · exact valRF.pureStep rfl 84 rfl rfl (by simp) _ rfl fun listed a u D hI hr hn => exec_move (.inl rfl) (valRF.val hI hr hn 14 (by kernel_rfl) rfl rfl)
          · exact valRF.pureStep rfl 100 rfl rfl (by simp) _ rfl fun listed a u D hI hr hn => op_extract rfl (valRF.val hI hr hn 15 (by kernel_rfl) rfl rfl) rfl
          · exact valRF.pureStep rfl 101 rfl rfl (by simp) _ rfl fun listed a u D hI hr hn => op_extract rfl (valRF.val hI hr hn 15 (by kernel_rfl) rfl rfl) rfl
          · exact valRF.pureStep rfl 13 rfl rfl (by simp) _ rfl fun listed a u D hI hr hn => exec_move (.inr rfl) (valRF.val hI hr hn 16 (by kernel_rfl) rfl rfl)
          · exact valRF.pureStep rfl 14 rfl rfl (by simp) _ rfl fun listed a u D hI hr hn => exec_move (.inr rfl) (valRF.val hI hr hn 17 (by kernel_rfl) rfl rfl)
        · intro listed a u D hI hall
          have eR0 : a.tmps.getD 13 undef = .int .i64 ca := (hI.fact 18 ⟨hall 18 (by simp), fun k hk => by cases hk⟩).1
          have eR1 : a.tmps.getD 14 undef = .bool true := (hI.fact 19 ⟨hall 19 (by simp), fun k hk => by cases hk⟩).1
          have hold := OneR.below_drew hI.old
          have hl := hI.fill [85, 86, 87, 88, 89, 90, 91, 92, 93, 94, 95, 96, 97, 98, 99, 84, 100, 101, 13, 14] (by kernel_rfl)
          clear hI hall
          obtain ⟨σ, hσ⟩ : ∃ σ : Nat → Value, ∀ t, a.tmps.getD t undef = σ t := ⟨_, fun _ => rfl⟩
          simp only [hσ] at hl eR0 eR1
          clear hσ
          simp only [List.foldl_cons, List.foldl_nil, List.setIfInBounds_toArray, List.set_cons_zero, List.set_cons_succ, eR0, eR1] at hl
          subst hl
          go_wp2_with fail
          go_meet
          exact ⟨rfl, rfl, hold⟩
      case rest =>
      obtain ⟨rfl, rfl, hb6⟩ := hcut
      obtain ⟨w6, rfl⟩ : ∃ u, u = wc := ⟨_, rfl⟩
      have HB6 := Lib.hid (HB5.out.trans (hb6.out.mono HB5.out.size))
      clear HC HK1 hb6 HB5
      have hw : IntKind.i64.wrap (g k + ca) = g (k + 1) := by
        rw [IntWalk.i64_in _ (by have := HBD.out; omega)]
        exact HSM.out
      go_wp2_with fail
      go_roundw
      case rel => exact ⟨k + 1, by omega, by first | rw [hw] | (simp only [hw]) | rw [HSM.out], by go_num, HB6⟩
      case measure => simp [intOf]; omega
theorem repairSums_w (x : Wd) (W : World) (h : ∃ ts ds os ps, Frames.WdOk W x ts ds os ∧ Frames.PlnOk W x.pl.a x.pl.n x.pl.c ps) : Calls Tryz.prog 7 #[wdV x] W fun e w' => e = .returned (.bool true) ∧ Below W.heap.size W w' := by
  obtain ⟨ts, ds, os, ps, h1, h2⟩ := h
  exact repairSums_walk x ts ds os ps W h1.ts h1.ds h1.os h2.plns
end Go.Proofs.YtilggpkmdmelmaaGreat.RepairW
