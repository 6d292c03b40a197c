/-
  Over all routes the best of each route's best: InsertDrivers, walked. Written by tools/gen_insdrivers.py.
-/
import Derived.Test.YtpigklkidagolaaInsertRs
import Derived.Test.YtpigklkidagolaaInsertUses
import Derived.Test.YtpigklkidagolaaInsertMaths
import Derived.Test.YtpigklkidagolaaFrameWorldP
namespace Go.Proofs.Ytpigklkidagolaa.Insert
open Go.ChangeShapes Go.WideShapes Go.ChangeAt Go.RowKit Go.Proofs.Ytpigklkidagolaa.Mem Go.Proofs.Ytpigklkidagolaa.GeoMath Go.Proofs.Ytpigklkidagolaa.FleetMath Go.Proofs.Ytpigklkidagolaa.PlanMath Go.Proofs.Ytpigklkidagolaa.CertMath Go.Proofs.Ytpigklkidagolaa.InsertMath Go.Proofs.Ytpigklkidagolaa.Rec Go.Proofs.Ytpigklkidagolaa.Geo Go.Proofs.Ytpigklkidagolaa.Span Go.Proofs.Ytpigklkidagolaa.Deal Go.Proofs.Ytpigklkidagolaa.Keep Go.Proofs.Ytpigklkidagolaa.Route Go.Proofs.Ytpigklkidagolaa.Plan Go.Proofs.Ytpigklkidagolaa.Cert
set_option linter.unusedVariables false
set_option linter.unusedSimpArgs false
/-- the best so far, in a block that the law made in w -/
structure DW (w : World) (wt : Option Sp4) (u : World) : Prop where
  old : Below w.heap.size w u
  want : S4Box u w.heap.size (wt.getD sp0)
section
variable {W w u u' : World} {q r : Option Addr} {m : Option Mp} {x : Wd} {ds : List Drv} {os : List FleetMath.Ord} {ps : List RM} {o : FleetMath.Ord} {y : Sp4} {wt : Option Sp4}
theorem DW.below (h : DW w wt u) (hb : Below u.heap.size u u') : DW w wt u' := ⟨h.old.trans (hb.mono h.old.size), Blk.below h.want hb (Blk.lt h.want)⟩
theorem DW.put (h : DW w wt u) (y : Sp4) : DW w (some y) (putS4 u w.heap.size y) := ⟨putS4_below h.old (Nat.le_refl _) y, putS4_box h.want y⟩
theorem IR.size (h : IR W q r m x ds os ps o u) : W.heap.size + 2 ≤ u.heap.size := Blk.lt h.ord
end
set_option maxRecDepth 100000 in
set_option maxHeartbeats 16000000 in
theorem insertDrivers_walk (x : Wd) (o : FleetMath.Ord) (ts : List Int) (ds : List Drv) (os : List FleetMath.Ord) (ps : List RM) (W : World) (hts : Ints W W.heap.size x.ts.a x.ts.n ts) (hds : Drvs W W.heap.size x.ds.a x.ds.n ds) (hos : Ords W W.heap.size x.os.a x.os.n os) (hps : Plns W W.heap.size x.pl.a x.pl.n ps) (hn40 : x.pl.n * 40 ≤ 140737488351232) (hn48 : x.ds.n * 48 ≤ 140737488351232) (hn80 : x.os.n * 80 ≤ 140737488351232) :
    Calls Try.prog 9 #[wdV x, ordV o] W fun e w' => e = .returned (.bool true) ∧ Below W.heap.size W w' := by
  have HTS := Lib.hid hts
  have HDS := Lib.hid hds
  have HOS := Lib.hid hos
  have HPS := Lib.hid hps
  have HLP := Lib.hid hps.length
  have HLD := Lib.hid hds.length
  clear hts hds hos hps
  obtain ⟨m, hm⟩ : ∃ m, mapOf x.n ts = m := ⟨_, rfl⟩
  have HM := Lib.hid hm
  clear hm
  obtain ⟨S, hS⟩ : ∃ z, cheapM m ds os (ps.map (·.rt)) o 100000 = z := ⟨_, rfl⟩
  have HS := Lib.hid hS
  clear hS
  obtain ⟨y, n1, e1⟩ := S
  obtain ⟨hb0, hw0, ho0⟩ := boxes_start (W := W) x o
  have HB0 := Lib.hid hb0
  have HW0 := Lib.hid hw0
  have HO0 := Lib.hid ho0
  clear hb0 hw0 ho0
  show Calls _ _ #[wdV x, .agg #[.int .i64 o.id, .int .i64 o.size, .int .i64 o.pick.place, .int .i64 o.pick.win.fr, .int .i64 o.pick.win.to, .int .i64 o.pick.serv, .int .i64 o.drop.place, .int .i64 o.drop.win.fr, .int .i64 o.drop.win.to, .int .i64 o.drop.serv]] _ _
  go_enter Try.func9, Try.ntmps9
  go_wp2_with fail
  refine (kmaps_any x ts _ (by exact Reads.more (Reads.keep HTS.out HB0.out) HB0.out.size)).mono ?_
  intro e w1 hmo
  have hb1 : Below _ _ w1 := hmo.1
  obtain ⟨q, r, rfl, hcr⟩ := CR.start (n0 := 0) HB0.out HW0.out HDS.out HOS.out HPS.out HM.out hmo
  have C1 : Hid (IR W q r m x ds os ps o w1) := ⟨hcr, HO0.out.below hb1⟩
  clear hmo hcr HB0 HW0 HO0 hb1
  obtain ⟨x0, x1, x2, x3, x4⟩ := C1.out.cr.wd.cells
  obtain ⟨o0, o1, o2, o3, o4, o5, o6, o7, o8, o9⟩ := C1.out.ord.cells
  go_wp2_with fail
  refine (use_cheapest C1.out hn80 HS.out).mono ?_
  rintro e w3 ⟨rfl, hb3⟩
  have hb3' : Below w1.heap.size w1 (w3.alloc (.cells #[.int .i64 y.drv, .int .i64 y.pick, .int .i64 y.drop, .int .i64 y.cost] 42)) := hb3.trans (((Below.refl _ _).alloc (Nat.le_refl _) _).mono hb3.size)
  have C3 := Lib.hid (C1.out.below hb3')
  have X3 : Hid (S4Box (w3.alloc (.cells #[.int .i64 y.drv, .int .i64 y.pick, .int .i64 y.drop, .int .i64 y.cost] 42)) w3.heap.size y) := Blk.new w3 _ _
  have G1 : W.heap.size + 2 ≤ w3.heap.size := Nat.le_trans C1.out.size hb3.size
  clear hb3 hb3' C1 x0 x1 x2 x3 x4 o0 o1 o2 o3 o4 o5 o6 o7 o8 o9
  go_upto_region 5 with fail
  obtain ⟨g1, hg1⟩ : ∃ g, w3.heap.size = g := ⟨_, rfl⟩
  obtain ⟨w, hu3⟩ : ∃ u, (w3.alloc (.cells #[.int .i64 y.drv, .int .i64 y.pick, .int .i64 y.drop, .int .i64 y.cost] 42)) = u := ⟨_, rfl⟩
  rw [hg1, hu3] at X3
  rw [hu3] at C3
  rw [hg1] at G1
  rw [hg1, hu3]
  clear hg1 hu3
  by_cases he : e1 = 1
  · have hy : y = sp0 ∧ n1 = 0 := by
      rcases cheap_one HS.out with ⟨_, h1, h2⟩ | ⟨h1, _⟩
      · exact ⟨h1, h2⟩
      · exact absurd he h1
    obtain ⟨rfl, rfl⟩ := hy
    subst he
    obtain ⟨a0, a1, a2, a3⟩ := X3.out.cells
    go_wp2_with fail
    refine (runs_any _).mono ?_
    rintro e wd ⟨rfl, hbd⟩
    have CD := Lib.hid (C3.out.below hbd)
    clear hbd
    go_wp2_with fail
    go_ret
    exact ⟨rfl, CD.out.cr.old⟩
  have HGD : Hid (¬ cheapBad m ds os (ps.map (·.rt)) o 100000) := by
    rcases cheap_one HS.out with ⟨h1, _⟩ | ⟨_, h2, _⟩
    · exact absurd h1 he
    · exact h2
  obtain ⟨G, hG⟩ : ∃ G, candD m ds os o = G := ⟨_, rfl⟩
  have HG := Lib.hid hG
  obtain ⟨c1, c2, c3⟩ := drivers_end HGD.out HS.out
  rw [hG] at c1 c3
  have HC1 := Lib.hid c1
  have HC2 := Lib.hid c2
  have HC3 := Lib.hid c3
  have e5 : (e1 == 1) = false := by simpa using he
  have D0 : Hid (DW w none (w.alloc (.cells #[.int .i64 0, .int .i64 0, .int .i64 0, .int .i64 0] 42))) := ⟨(Below.refl _ _).alloc (Nat.le_refl _) _, Blk.new w _ _⟩
  have HP0 : Hid ((none : Option Sp4) = bestOf (((ps.map (·.rt)).take 0).flatMap G) ∧ 0 = (((ps.map (·.rt)).take 0).flatMap G).length) := Lib.hid (by simp [bestOf])
  clear he c1 c2 c3 hG G1 HS HM HTS
  go_upto_region 11 with fail
  obtain ⟨u1, hu1⟩ : ∃ u, (w.alloc (.cells #[.int .i64 0, .int .i64 0, .int .i64 0, .int .i64 0] 42)) = u := ⟨_, rfl⟩
  rw [hu1] at D0
  (try rw [hu1])
  clear hu1
  go_loopw [12, 13, 14] (fun fv sv iv wr => ∃ (k st : Nat) (wt : Option Sp4), k ≤ x.pl.n ∧ fv = .bool wt.isSome ∧ sv = .int .i64 st ∧ iv = .int .i64 k ∧ Hid (DW w wt wr) ∧ Hid (wt = bestOf (((ps.map (·.rt)).take k).flatMap G) ∧ st = (((ps.map (·.rt)).take k).flatMap G).length)) (fun _ _ iv _ => x.pl.n - (intOf iv).toNat)
  case atStart => exact ⟨0, 0, none, Nat.zero_le _, rfl, rfl, rfl, D0, HP0⟩
  case round =>
    clear D0 HP0
    obtain ⟨k, st, wt, hk, rfl, rfl, rfl, HD, HW⟩ := hrel
    have CW := Lib.hid (C3.out.below HD.out.old)
    have XW : Hid (S4Box wr g1 y) := Blk.below X3.out HD.out.old (Blk.lt X3.out)
    obtain ⟨x0, x1, x2, x3, x4⟩ := CW.out.cr.wd.cells
    by_cases hlt : k < x.pl.n
    case neg =>
      have hall : (ps.map (·.rt)).take k = ps.map (·.rt) := List.take_of_length_le (by rw [List.length_map, HLP.out]; omega)
      obtain ⟨hw1, hw2⟩ := HW.out
      rw [hall] at hw1 hw2
      have e6 : n1 = (st : Int) := by rw [HC1.out, hw2]
      have e7 : ¬ (100000 : Int) < (st : Int) := by have := HC2.out; omega
      obtain ⟨a0, a1, a2, a3⟩ := XW.out.cells
      obtain ⟨b0, b1, b2, b3⟩ := HD.out.want.cells
      rw [hw1] at b0 b1 b2 b3 ⊢
      rcases HC3.out with ⟨h1, h2⟩ | ⟨h1, h2, h3⟩
      · rw [h2] at b0 b1 b2 b3 ⊢
        simp only [Option.getD_some] at b0 b1 b2 b3
        subst h1; subst e6
        clear hall hw1 hw2 h2 HW HC1 HC2 HC3 HD
        go_wp2_with fail
        refine (runs_any _).mono ?_
        rintro e wd ⟨rfl, hbd⟩
        have CD := Lib.hid (CW.out.below hbd)
        clear hbd
        go_wp2_with fail
        go_ret
        exact ⟨rfl, CD.out.cr.old⟩
      · rw [h3] at b0 b1 b2 b3 ⊢
        simp only [Option.getD_none] at b0 b1 b2 b3
        subst h1; subst e6; subst h2
        clear hall hw1 hw2 h3 HW HC1 HC2 HC3 HD
        go_wp2_with fail
        refine (runs_any _).mono ?_
        rintro e wd ⟨rfl, hbd⟩
        have CD := Lib.hid (CW.out.below hbd)
        clear hbd
        go_wp2_with fail
        go_ret
        exact ⟨rfl, CD.out.cr.old⟩
    obtain ⟨⟨hwl, hallr⟩, _, _, _, _⟩ := cheap_good HGD.out
    obtain ⟨m', hmm, hd8, hkn, hrp, hde, hdi⟩ := wellC_parts hwl
    obtain ⟨pb, off, rm, hPA, _, hrm, _, _, _, _, hst, hrc⟩ := CW.out.cr.pl0.at_ hlt
    have hrk : (ps.map (·.rt))[k]? = some rm.rt := by rw [List.getElem?_map, hrm]; rfl
    have hrmem := List.mem_of_getElem? hrk
    obtain ⟨d0, hd0, _⟩ := hallr _ hrmem
    obtain ⟨jd, hjd⟩ := List.mem_iff_getElem?.1 (List.mem_of_find?_eq_some hd0)
    have hd0i : d0.id = rm.rt.drv := by
      have := List.find?_some hd0
      simpa using this
    have hjn : jd < x.ds.n := by rw [← HLD.out]; exact (List.getElem?_eq_some_iff.1 hjd).1
    have hrn : rm.n ≤ 80 := by have := (right_route hrp hrmem).1; rw [hst.length] at this; exact this
    have HDI := Lib.hid hdi
    have HJD := Lib.hid hjd
    have HD0 := Lib.hid hd0
    have HRM := Lib.hid hrm
    have HRR := Lib.hid hrmem
    have HST := Lib.hid hst
    have HNX := Lib.hid (drivers_next (G := G) hrk)
    obtain ⟨T, hT⟩ : ∃ T, bestOf (G rm.rt) = T := ⟨_, rfl⟩
    obtain ⟨lr, hlr⟩ : ∃ n, (G rm.rt).length = n := ⟨_, rfl⟩
    have hlr1 : lr ≤ 6241 := by rw [← hlr, ← HG.out]; exact candD_len
    have hst1 : st ≤ 100000 := by
      have h1 := flat_len (G := G) (fun r => by rw [← HG.out]; exact candD_len) ((ps.map (·.rt)).take k)
      have h2 : ((ps.map (·.rt)).take k).length ≤ 8 := by have := rightP_few hrp; rw [List.length_take]; omega
      have h3 : 6241 * ((ps.map (·.rt)).take k).length ≤ 6241 * 8 := Nat.mul_le_mul_left _ h2
      have h4 := HW.out.2
      omega
    have HTT := Lib.hid hT
    have HLR := Lib.hid hlr
    have hpn : x.pl.n ≤ 9223372036854775807 := by omega
    have hdn : x.ds.n ≤ 9223372036854775807 := by omega
    have HPA := Lib.hid hPA
    clear hwl hallr hde hdi hkn hrp hd0 hjd hrm hrk hrmem hst hT hlr hPA hmm hd8 CW XW x0 x1 x2 x3 x4
    obtain ⟨x0, x1, x2, x3, x4⟩ := (C3.out.below HD.out.old).cr.wd.cells
    go_upto_region 14 with fail
    clear x0 x1 x2 x3 x4
    go_loopw [12, 13, 15] (fun fv sv iv wz => ∃ (j sz : Nat) (wu : Option Sp4), j ≤ x.ds.n ∧ fv = .bool wu.isSome ∧ sv = .int .i64 sz ∧ iv = .int .i64 j ∧ Hid (DW w wu wz) ∧ Hid ((j ≤ jd → wu = wt ∧ sz = st) ∧ (jd < j → wu = betterC wt T ∧ sz = st + lr))) (fun _ _ iv _ => x.ds.n - (intOf iv).toNat)
    case atStart => exact ⟨0, st, wt, Nat.zero_le _, rfl, rfl, rfl, HD, Lib.hid ⟨fun _ => ⟨rfl, rfl⟩, fun h => absurd h (by omega)⟩⟩
    case round =>
      clear HD
      obtain ⟨j, sz, wu, hj, rfl, rfl, rfl, HD, HI⟩ := hrel
      have CW := Lib.hid (C3.out.below HD.out.old)
      by_cases hjlt : j < x.ds.n
      case neg =>
        obtain ⟨hi1, hi2⟩ := HI.out.2 (by omega)
        obtain ⟨x0, x1, x2, x3, x4⟩ := CW.out.cr.wd.cells
        have HW1 : Hid (wu = bestOf (((ps.map (·.rt)).take (k + 1)).flatMap G) ∧ sz = (((ps.map (·.rt)).take (k + 1)).flatMap G).length) := by
          obtain ⟨h1, h2⟩ := HNX.out
          rw [HTT.out] at h1
          rw [HLR.out] at h2
          refine ⟨?_, ?_⟩
          · rw [h1, hi1, HW.out.1]
          · rw [h2, hi2, HW.out.2]
        clear hi1 hi2 HI HW HNX
        go_wp2_with fail
        go_roundw
        case rel => exact ⟨k + 1, sz, wu, by omega, rfl, rfl, by go_num, HD, HW1⟩
        case measure => simp [intOf]; omega
      obtain ⟨db, doff, d, hDA, _, hd, _, _, _, _, _, _, _⟩ := Drvs.at_ CW.out.cr.ds0 hjlt
      have HDD := Lib.hid hd
      have HDA := Lib.hid hDA
      have HC : Hid (∀ u, Below wr.heap.size wr u → (u.cell? ⟨W.heap.size, 2, none⟩ = some (.slice (some ⟨db, doff, none⟩) x.ds.n x.ds.c) ∧ u.cell? ⟨W.heap.size, 3, none⟩ = some (.slice x.os.a x.os.n x.os.c) ∧ u.cell? ⟨W.heap.size, 4, none⟩ = some (.slice (some ⟨pb, off, none⟩) x.pl.n x.pl.c)) ∧ (u.cell? ⟨db, doff + j * 6, none⟩ = some (.int .i64 d.id) ∧ u.cell? ⟨db, doff + j * 6 + 1, none⟩ = some (.int .i64 d.room) ∧ u.cell? ⟨db, doff + j * 6 + 2, none⟩ = some (.int .i64 d.home) ∧ u.cell? ⟨db, doff + j * 6 + 3, none⟩ = some (.int .i64 d.win.fr) ∧ u.cell? ⟨db, doff + j * 6 + 4, none⟩ = some (.int .i64 d.win.to) ∧ u.cell? ⟨db, doff + j * 6 + 5, none⟩ = some (.bool d.retired)) ∧ (u.cell? ⟨pb, off + k * 3, none⟩ = some (.int .i64 rm.rt.drv) ∧ u.cell? ⟨pb, off + k * 3 + 1, none⟩ = some (.int .i64 rm.rt.served) ∧ u.cell? ⟨pb, off + k * 3 + 2, none⟩ = some (.slice rm.a rm.n rm.c))) := fun u hu => by
        have hcu := CW.out.below hu
        obtain ⟨_, _, z2, z3, z4⟩ := hcu.cr.wd.cells
        obtain ⟨b', off', o', e', _, ho', _, c0, c1, c2, c3, c4, c5⟩ := Drvs.at_ hcu.cr.drvs hjlt
        rw [HDA.out] at e'
        injection e' with e'
        injection e' with e1 e2
        subst e1; subst e2
        rw [HDD.out] at ho'
        injection ho' with ho'
        subst ho'
        obtain ⟨b', off', o', e', _, ho', _, k0, k1, k2, _, _⟩ := hcu.cr.plns.at_ hlt
        rw [HPA.out] at e'
        injection e' with e'
        injection e' with e1 e2
        subst e1; subst e2
        rw [HRM.out] at ho'
        injection ho' with ho'
        subst ho'
        refine ⟨⟨?_, z3, ?_⟩, ⟨c0, c1, c2, c3, c4, c5⟩, ⟨k0, k1, k2⟩⟩
        · rw [z2]; show some (Value.slice x.ds.a x.ds.n x.ds.c) = _; rw [HDA.out]
        · rw [z4]; show some (Value.slice x.pl.a x.pl.n x.pl.c) = _; rw [HPA.out]
      clear hd hDA
      obtain ⟨x0, x1, x2, x3, x4⟩ := CW.out.cr.wd.cells
      go_upto_region 16 with fail
      clear x0 x1 x2 x3 x4
      obtain ⟨⟨z2, z3, z4⟩, ⟨c0, c1, c2, c3, c4, c5⟩, ⟨k0, k1, k2⟩⟩ := HC.out _ (Below.refl _ _)
      obtain ⟨eb, heb⟩ : ∃ b, (d.id != rm.rt.drv) = b := ⟨_, rfl⟩
      go_cut [78] (fun bv wx => bv = .bool eb ∧ Hid (Below wr.heap.size wr wx))
      case first =>
        go_quiet (fail)
        all_goals
          go_wp2_with fail
          go_meet
          exact ⟨by first | rfl | rw [heb], Lib.hid (below_drewN (Below.refl _ _) _)⟩
      case rest =>
      obtain ⟨rfl, hb5⟩ := hcut
      obtain ⟨w5, rfl⟩ : ∃ u, u = wc := ⟨_, rfl⟩
      have HD5 := Lib.hid (HD.out.below hb5.out)
      clear z2 z3 z4 c0 c1 c2 c3 c4 c5 k0 k1 k2
      cases eb with
      | true =>
        have hjj : j ≠ jd := fun e => by
          subst e
          have h1 := HJD.out
          rw [HDD.out] at h1
          injection h1 with h1
          subst h1
          rw [hd0i] at heb
          simp at heb
        have HI1 : Hid ((j + 1 ≤ jd → wu = wt ∧ sz = st) ∧ (jd < j + 1 → wu = betterC wt T ∧ sz = st + lr)) := ⟨fun h => HI.out.1 (by omega), fun h => HI.out.2 (by omega)⟩
        clear heb HI HC hb5 HD CW
        go_wp2_with fail
        go_roundw
        case rel => exact ⟨j + 1, sz, wu, by omega, rfl, rfl, by go_num, HD5, HI1⟩
        case measure => simp [intOf]; omega
      | false =>
      have hdi2 : d.id = rm.rt.drv := by simpa using heb
      have hjj : j = jd := drv_idx HDI.out HJD.out HDD.out (by rw [hdi2, hd0i])
      subst hjj
      have hdd : d = d0 := by have h1 := HJD.out; rw [HDD.out] at h1; injection h1
      subst hdd
      obtain ⟨hi1, hi2⟩ := HI.out.1 (Nat.le_refl _)
      subst hi1; subst hi2
      obtain ⟨B, hB⟩ : ∃ B, bestM m d os rm.rt o 100000 = B := ⟨_, rfl⟩
      obtain ⟨bx, bl, bf⟩ := B
      obtain ⟨hbl, hbr⟩ := best_route HGD.out HRR.out HD0.out hB
      rw [HG.out, HLR.out] at hbl
      rw [HG.out, HTT.out] at hbr
      subst hbl
      have HBR := Lib.hid hbr
      have HBB : Hid (∀ u, Below w5.heap.size w5 u → Calls Try.prog 17 #[.pointer q, drvV d, .slice x.os.a x.os.n x.os.c, rteV rm, ordV o, .int .i64 100000] u (fun e u' => e = .returned (toldV (bx, (lr : Int), bf)) ∧ Below u.heap.size u u')) := fun u hu => by
        have hc := (CW.out.below (hb5.out)).below hu
        have h1 := pbest_any W.heap.size (.pointer q) m d x.os.a x.os.n x.os.c os rm o 100000 u hc.cr.map hc.cr.ords (by
          obtain ⟨_, _, _, _, _, ho', _, _, _, _, hs, _⟩ := hc.cr.plns.at_ hlt
          rw [HRM.out] at ho'
          injection ho' with ho'
          subst ho'
          exact hs) hrc x.os.h hn80 (by omega)
        rw [hB] at h1
        exact h1
      have HC5 : Hid (∀ u, Below w5.heap.size w5 u → (u.cell? ⟨W.heap.size, 2, none⟩ = some (.slice (some ⟨db, doff, none⟩) x.ds.n x.ds.c) ∧ u.cell? ⟨W.heap.size, 3, none⟩ = some (.slice x.os.a x.os.n x.os.c) ∧ u.cell? ⟨W.heap.size, 4, none⟩ = some (.slice (some ⟨pb, off, none⟩) x.pl.n x.pl.c)) ∧ (u.cell? ⟨db, doff + j * 6, none⟩ = some (.int .i64 d.id) ∧ u.cell? ⟨db, doff + j * 6 + 1, none⟩ = some (.int .i64 d.room) ∧ u.cell? ⟨db, doff + j * 6 + 2, none⟩ = some (.int .i64 d.home) ∧ u.cell? ⟨db, doff + j * 6 + 3, none⟩ = some (.int .i64 d.win.fr) ∧ u.cell? ⟨db, doff + j * 6 + 4, none⟩ = some (.int .i64 d.win.to) ∧ u.cell? ⟨db, doff + j * 6 + 5, none⟩ = some (.bool d.retired)) ∧ (u.cell? ⟨pb, off + k * 3, none⟩ = some (.int .i64 rm.rt.drv) ∧ u.cell? ⟨pb, off + k * 3 + 1, none⟩ = some (.int .i64 rm.rt.served) ∧ u.cell? ⟨pb, off + k * 3 + 2, none⟩ = some (.slice rm.a rm.n rm.c))) := fun u hu => HC.out u (hb5.out.trans (hu.mono hb5.out.size))
      have HO5 : Hid (∀ u, Below w5.heap.size w5 u → OBox u (W.heap.size + 1) o) := fun u hu => ((CW.out.below hb5.out).below hu).ord
      clear heb HI HC hbr hB HD hdi2 CW hb5
      go_upto_region 17 with fail
      go_cut [16, 17, 18] (fun pv lv fv wx => ∃ gt, pv = .pointer (some ⟨gt, 0, none⟩) ∧ lv = .int .i64 (lr : Int) ∧ fv = .int .i64 bf ∧ Hid (Below w5.heap.size w5 wx) ∧ Hid (S4Box wx gt bx))
      case first =>
        refine wp_region_steps (boxRF [80, 81, 82, 83, 84, 85, 86, 87, 88, 89, 90, 91, 92, 93, 94, 79, 95, 96, 97, 16, 16, 17, 18] [.pointer q, .pointer (some ⟨W.heap.size, 2, none⟩), .slice (some ⟨db, doff, none⟩) x.ds.n x.ds.c, .int .i64 ((j : Nat) : Int), .pointer (some ⟨db, doff + j * 6, none⟩), drvV d, .pointer (some ⟨W.heap.size, 3, none⟩), .slice x.os.a x.os.n x.os.c, .pointer (some ⟨W.heap.size, 4, none⟩), .slice (some ⟨pb, off, none⟩) x.pl.n x.pl.c, .int .i64 ((k : Nat) : Int), .pointer (some ⟨pb, off + k * 3, none⟩), rteV rm, ordV o, toldV (bx, (lr : Int), bf), toldV (bx, (lr : Int), bf), sp4V bx, .int .i64 (lr : Int), .int .i64 bf, undef, undef, .int .i64 (lr : Int), .int .i64 bf] 19 20 42 [.int .i64 0, .int .i64 0, .int .i64 0, .int .i64 0] [.int .i64 bx.drv, .int .i64 bx.pick, .int .i64 bx.drop, .int .i64 bx.cost]) (by kernel_rfl) (by kernel_rfl) (by kernel_rfl) (fun q hq => ?_) (by kernel_rfl) boxRF.mon ?_ ?_
        · simp only [List.length_cons, List.length_nil] at hq
          simp only [boxRF]
          rw [if_neg (by omega)]
        · refine ⟨?_, ?_, ?_, ?_, ?_, ?_, ?_, ?_, ?_, ?_, ?_, ?_, ?_, ?_, ?_, ?_, ?_, ?_, ?_, ?_, ?_, ?_, ?_, trivial⟩
          · exact boxRF.pureStep rfl 80 rfl rfl (by simp) (by decide) (by decide) _ rfl fun listed a u D hI hr hn => exec_move (.inl rfl) (hI.out 5 (by kernel_rfl))
          · exact boxRF.pureStep rfl 81 rfl rfl (by simp) (by decide) (by decide) _ rfl fun listed a u D hI hr hn => op_field rfl (hI.out 2 (by kernel_rfl)) (by simp [go_sem])
          · exact boxRF.pureStep rfl 82 rfl rfl (by simp) (by decide) (by decide) _ rfl fun listed a u D hI hr hn => exec_load rfl (boxRF.val hI hr hn 1 (by kernel_rfl) (by decide) (by decide) rfl rfl) (run_load_sl _ (.inl rfl) (HC5.out _ (OneR.below_drew hI.old)).1.1)
          · exact boxRF.pureStep rfl 83 rfl rfl (by simp) (by decide) (by decide) _ rfl fun listed a u D hI hr hn => exec_move (.inl rfl) (hI.out 15 (by kernel_rfl))
          · exact boxRF.pureStep rfl 84 rfl rfl (by simp) (by decide) (by decide) _ rfl fun listed a u D hI hr hn => exec_index_drv rfl (boxRF.val hI hr hn 2 (by kernel_rfl) (by decide) (by decide) rfl rfl) (boxRF.val hI hr hn 3 (by kernel_rfl) (by decide) (by decide) rfl rfl) hjlt hdn
          · exact boxRF.pureStep rfl 85 rfl rfl (by simp) (by decide) (by decide) _ rfl fun listed a u D hI hr hn => exec_load rfl (boxRF.val hI hr hn 4 (by kernel_rfl) (by decide) (by decide) rfl rfl) (run_load_dx (HC5.out _ (OneR.below_drew hI.old)).2.1)
          · exact boxRF.pureStep rfl 86 rfl rfl (by simp) (by decide) (by decide) _ rfl fun listed a u D hI hr hn => op_field rfl (hI.out 2 (by kernel_rfl)) (by simp [go_sem])
          · exact boxRF.pureStep rfl 87 rfl rfl (by simp) (by decide) (by decide) _ rfl fun listed a u D hI hr hn => exec_load rfl (boxRF.val hI hr hn 6 (by kernel_rfl) (by decide) (by decide) rfl rfl) (run_load_sl _ (.inr (.inl rfl)) (HC5.out _ (OneR.below_drew hI.old)).1.2.1)
          · exact boxRF.pureStep rfl 88 rfl rfl (by simp) (by decide) (by decide) _ rfl fun listed a u D hI hr hn => op_field rfl (hI.out 2 (by kernel_rfl)) (by simp [go_sem])
          · exact boxRF.pureStep rfl 89 rfl rfl (by simp) (by decide) (by decide) _ rfl fun listed a u D hI hr hn => exec_load rfl (boxRF.val hI hr hn 8 (by kernel_rfl) (by decide) (by decide) rfl rfl) (run_load_sl _ (.inr (.inr rfl)) (HC5.out _ (OneR.below_drew hI.old)).1.2.2)
          · exact boxRF.pureStep rfl 90 rfl rfl (by simp) (by decide) (by decide) _ rfl fun listed a u D hI hr hn => exec_move (.inl rfl) (hI.out 14 (by kernel_rfl))
          · exact boxRF.pureStep rfl 91 rfl rfl (by simp) (by decide) (by decide) _ rfl fun listed a u D hI hr hn => exec_index_rte rfl (boxRF.val hI hr hn 9 (by kernel_rfl) (by decide) (by decide) rfl rfl) (boxRF.val hI hr hn 10 (by kernel_rfl) (by decide) (by decide) rfl rfl) hlt hpn
          · exact boxRF.pureStep rfl 92 rfl rfl (by simp) (by decide) (by decide) _ rfl fun listed a u D hI hr hn => exec_load rfl (boxRF.val hI hr hn 11 (by kernel_rfl) (by decide) (by decide) rfl rfl) (run_load_rx (HC5.out _ (OneR.below_drew hI.old)).2.2)
          · exact boxRF.pureStep rfl 93 rfl rfl (by simp) (by decide) (by decide) _ rfl fun listed a u D hI hr hn => exec_load rfl (hI.out 3 (by kernel_rfl)) (Slack.run_load_ord (HO5.out _ (OneR.below_drew hI.old)))
          · exact boxRF.callStep rfl 94 rfl rfl (by simp) (by decide) (by decide) _ rfl fun listed a u D hI hr hn => ⟨_, _, ins_call6 rfl (boxRF.val hI hr hn 0 (by kernel_rfl) (by decide) (by decide) rfl rfl) (boxRF.val hI hr hn 5 (by kernel_rfl) (by decide) (by decide) rfl rfl) (boxRF.val hI hr hn 7 (by kernel_rfl) (by decide) (by decide) rfl rfl) (boxRF.val hI hr hn 12 (by kernel_rfl) (by decide) (by decide) rfl rfl) (boxRF.val hI hr hn 13 (by kernel_rfl) (by decide) (by decide) rfl rfl) rfl (by simp [go_sem]), HBB.out _ (OneR.below_drew hI.old)⟩
          · exact boxRF.pureStep rfl 79 rfl rfl (by simp) (by decide) (by decide) _ rfl fun listed a u D hI hr hn => exec_move (.inl rfl) (boxRF.val hI hr hn 14 (by kernel_rfl) (by decide) (by decide) rfl rfl)
          · exact boxRF.pureStep rfl 95 rfl rfl (by simp) (by decide) (by decide) _ rfl fun listed a u D hI hr hn => op_extract rfl (boxRF.val hI hr hn 15 (by kernel_rfl) (by decide) (by decide) rfl rfl) rfl
          · exact boxRF.pureStep rfl 96 rfl rfl (by simp) (by decide) (by decide) _ rfl fun listed a u D hI hr hn => op_extract rfl (boxRF.val hI hr hn 15 (by kernel_rfl) (by decide) (by decide) rfl rfl) rfl
          · exact boxRF.pureStep rfl 97 rfl rfl (by simp) (by decide) (by decide) _ rfl fun listed a u D hI hr hn => op_extract rfl (boxRF.val hI hr hn 15 (by kernel_rfl) (by decide) (by decide) rfl rfl) rfl
          · exact boxRF.allocStep rfl 16 rfl rfl (by simp) fun a u => exec_asp4 rfl
          · exact boxRF.storeStep rfl rfl rfl rfl (by decide) (by kernel_rfl) fun listed a u D hI hr hn g e1 hb => ⟨_, exec_store rfl e1 (boxRF.val hI hr hn 16 (by kernel_rfl) (by decide) (by decide) rfl rfl) (run_store_s4 hb bx), ((((Only.refl _ _).set _ _).set _ _).set _ _).set _ _, putS4_of hb bx⟩
          · exact boxRF.pureStep rfl 17 rfl rfl (by simp) (by decide) (by decide) _ rfl fun listed a u D hI hr hn => exec_move (.inr rfl) (boxRF.val hI hr hn 17 (by kernel_rfl) (by decide) (by decide) rfl rfl)
          · exact boxRF.pureStep rfl 18 rfl rfl (by simp) (by decide) (by decide) _ rfl fun listed a u D hI hr hn => exec_move (.inr rfl) (boxRF.val hI hr hn 18 (by kernel_rfl) (by decide) (by decide) rfl rfl)
        · intro listed a u D hI hall
          obtain ⟨gt, eB, hbx⟩ := boxRF.box hI hall (by decide) (by decide) (s := 16) rfl
          have eR0 : a.tmps.getD 17 undef = .int .i64 (lr : Int) := by
            have := hI.fact 21 ⟨hall 21 (by simp), fun k hk => by simp [boxRF] at hk⟩
            simp only [boxRF] at this
            rw [if_neg (by decide), if_neg (by decide)] at this
            exact this.1
          have eR1 : a.tmps.getD 18 undef = .int .i64 bf := by
            have := hI.fact 22 ⟨hall 22 (by simp), fun k hk => by simp [boxRF] at hk⟩
            simp only [boxRF] at this
            rw [if_neg (by decide), if_neg (by decide)] at this
            exact this.1
          have hold := OneR.below_drew hI.old
          have hl := hI.fill [80, 81, 82, 83, 84, 85, 86, 87, 88, 89, 90, 91, 92, 93, 94, 79, 95, 96, 97, 16, 17, 18] (by kernel_rfl)
          clear hI hall
          obtain ⟨σ, hσ⟩ : ∃ σ : Nat → Value, ∀ t, a.tmps.getD t undef = σ t := ⟨_, fun _ => rfl⟩
          simp only [hσ] at hl eB eR0 eR1
          clear hσ
          simp only [List.foldl_cons, List.foldl_nil, List.setIfInBounds_toArray, List.set_cons_zero, List.set_cons_succ, eB, eR0, eR1] at hl
          subst hl
          go_wp2_with fail
          go_meet
          exact ⟨gt, rfl, rfl, rfl, hold, hbx⟩
      case rest =>
      obtain ⟨gt, rfl, rfl, rfl, hb6, HBX⟩ := hcut
      obtain ⟨w6, rfl⟩ : ∃ u, u = wc := ⟨_, rfl⟩
      have HD6 := Lib.hid (HD5.out.below hb6.out)
      have hwr : IntKind.i64.wrap ((sz : Int) + (lr : Int)) = ((sz + lr : Nat) : Int) := by rw [IntWalk.i64_in _ (by omega)]; omega
      clear hb6 HBB HC5 HO5 HD5
      obtain ⟨a0, a1, a2, a3⟩ := HBX.out.cells
      obtain ⟨b0, b1, b2, b3⟩ := HD6.out.want.cells
      have hcs := cell_apart w.heap.size
      have hfs := frozen_set
      have hff := Blk.free HD6.out.want
      rcases HBR.out with ⟨rfl, hT⟩ | ⟨hbf, hT⟩
      · cases wu with
        | none =>
          have HI1 : Hid ((j + 1 ≤ j → some bx = none ∧ sz + lr = sz) ∧ (j < j + 1 → some bx = betterC none T ∧ sz + lr = sz + lr)) := ⟨fun h => absurd h (by omega), fun _ => ⟨by rw [hT]; rfl, rfl⟩⟩
          have HP := Lib.hid (HD6.out.put bx)
          simp only [Option.getD_none] at b0 b1 b2 b3
          clear hT HD6 HBX HBR HTT
          go_wp2_with fail
          go_roundw
          case rel => exact ⟨j + 1, sz + lr, some bx, by omega, rfl, by first | rfl | rw [hwr], by go_num, HP, HI1⟩
          case measure => simp [intOf]; omega
        | some z =>
          simp only [Option.getD_some] at b0 b1 b2 b3
          by_cases hc : bx.cost < z.cost
          · have HI1 : Hid ((j + 1 ≤ j → some bx = some z ∧ sz + lr = sz) ∧ (j < j + 1 → some bx = betterC (some z) T ∧ sz + lr = sz + lr)) := ⟨fun h => absurd h (by omega), fun _ => ⟨by rw [hT, betterC_less hc], rfl⟩⟩
            have HP := Lib.hid (HD6.out.put bx)
            clear hT HD6 HBX HBR HTT
            go_wp2_with fail
            go_roundw
            case rel => exact ⟨j + 1, sz + lr, some bx, by omega, rfl, by first | rfl | rw [hwr], by go_num, HP, HI1⟩
            case measure => simp [intOf]; omega
          · have HI1 : Hid ((j + 1 ≤ j → some z = some z ∧ sz + lr = sz) ∧ (j < j + 1 → some z = betterC (some z) T ∧ sz + lr = sz + lr)) := ⟨fun h => absurd h (by omega), fun _ => ⟨by rw [hT, betterC_more hc], rfl⟩⟩
            clear hT HBX HBR HTT
            go_wp2_with fail
            go_roundw
            case rel => exact ⟨j + 1, sz + lr, some z, by omega, rfl, by first | rfl | rw [hwr], by go_num, HD6, HI1⟩
            case measure => simp [intOf]; omega
      · have HI1 : Hid ((j + 1 ≤ j → wu = wu ∧ sz + lr = sz) ∧ (j < j + 1 → wu = betterC wu T ∧ sz + lr = sz + lr)) := ⟨fun h => absurd h (by omega), fun _ => ⟨by rw [hT]; rfl, rfl⟩⟩
        have e2 : (bf == 0) = false := by simpa using hbf
        clear hT hbf HBX HBR HTT
        go_wp2_with fail
        go_roundw
        case rel => exact ⟨j + 1, sz + lr, wu, by omega, rfl, by first | rfl | rw [hwr], by go_num, HD6, HI1⟩
        case measure => simp [intOf]; omega
theorem insertDrivers_w (x : Wd) (o : FleetMath.Ord) (W : World) (h : ∃ ts ds os ps, Frames.WdOk W x ts ds os ∧ Frames.PlnOk W x.pl.a x.pl.n x.pl.c ps) : Calls Try.prog 9 #[wdV x, ordV o] W fun e w' => e = .returned (.bool true) ∧ Below W.heap.size W w' := by
  obtain ⟨ts, ds, os, ps, h1, h2⟩ := h
  exact insertDrivers_walk x o ts ds os ps W h1.ts h1.ds h1.os h2.plns (by have := h2.le; have := h2.few; omega) h1.dsn h1.osn
#print axioms insertDrivers_w
end Go.Proofs.Ytpigklkidagolaa.Insert
