/-
  Chapter 6's example runs come out as the chapter says (DealRuns returns true), whatever the memory; only new memory is written.
-/
import Derived.Test.YtofkhpcigjcegaaDealRunsW
namespace Go.Proofs.Ytofkhpcigjcegaa.Deal
open Go.ChangeShapes Go.WideShapes Go.ChangeAt Go.RowKit Go.Proofs.Ytofkhpcigjcegaa.Mem Go.Proofs.Ytofkhpcigjcegaa.GeoMath Go.Proofs.Ytofkhpcigjcegaa.FleetMath Go.Proofs.Ytofkhpcigjcegaa.Rec Go.Proofs.Ytofkhpcigjcegaa.Geo Go.Proofs.Ytofkhpcigjcegaa.Span Go.Proofs.Ytofkhpcigjcegaa.Keep

set_option maxRecDepth 100000 in
set_option maxHeartbeats 4000000 in
theorem runs_any (W : World) : Calls Try.prog 3 #[] W (Gives W (.bool true)) := by
  have HB0 : Hid (Below W.heap.size W (W.alloc (.cells #[.int .i64 0, .int .i64 5, .int .i64 7, .int .i64 0] 3))) := (Below.refl _ _).alloc (Nat.le_refl _) _
  have HI0 : Hid (Ints (W.alloc (.cells #[.int .i64 0, .int .i64 5, .int .i64 7, .int .i64 0] 3)) (W.heap.size + 1) (some ⟨W.heap.size, 0, none⟩) 4 [0, 5, 7, 0]) := new4 W _ _ _ _ _
  go_enter Try.func3, Try.ntmps3
  go_wp2_with fail
  refine (kgnew 2 0 _ 4 4 [0, 5, 7, 0] _ (by exact Reads.more HI0.out (by simp)) (by decide)).mono ?_
  rintro e w1 ⟨q, rfl, hq, hb1, hm1⟩
  obtain ⟨z, rfl⟩ : ∃ z, q = some z := by cases q with
    | none => cases hq
    | some z => exact ⟨z, rfl⟩
  have HB1 : Hid (Below W.heap.size W w1) := HB0.out.trans (hb1.mono HB0.out.size)
  have HM1 : Hid (MapP w1 65 W.heap.size (.pointer (some z)) (some smallM)) := MapP.lower hm1 HB0.out.size
  clear hb1 hm1 hq HB0 HI0
  go_wp2_with fail
  refine (small_any _).mono ?_
  rintro e w2 ⟨rfl, hb2⟩
  have HB2 : Hid (Below W.heap.size W w2) := HB1.out.trans (hb2.mono HB1.out.size)
  have HM2 := Lib.hid (HM1.out.keep hb2)
  clear hb2 HB1 HM1
  go_wp2_with fail
  have HB3 : Hid (Below W.heap.size W ((w2.alloc (.cells #[.int .i64 smallO.id, .int .i64 smallO.size, .int .i64 smallO.pick.place, .int .i64 smallO.pick.win.fr, .int .i64 smallO.pick.win.to, .int .i64 smallO.pick.serv, .int .i64 smallO.drop.place, .int .i64 smallO.drop.win.fr, .int .i64 smallO.drop.win.to, .int .i64 smallO.drop.serv] 31)).alloc (.cells #[.int .i64 smallD.id, .int .i64 smallD.room, .int .i64 smallD.home, .int .i64 smallD.win.fr, .int .i64 smallD.win.to, .bool smallD.retired] 33))) := (HB2.out.alloc HB2.out.size _).alloc (by have := HB2.out.size; simp; omega) _
  have R3 : Hid (RS W (some z) [(w2.heap.size, smallO)] [(w2.heap.size + 1, smallD)] ((w2.alloc (.cells #[.int .i64 smallO.id, .int .i64 smallO.size, .int .i64 smallO.pick.place, .int .i64 smallO.pick.win.fr, .int .i64 smallO.pick.win.to, .int .i64 smallO.pick.serv, .int .i64 smallO.drop.place, .int .i64 smallO.drop.win.fr, .int .i64 smallO.drop.win.to, .int .i64 smallO.drop.serv] 31)).alloc (.cells #[.int .i64 smallD.id, .int .i64 smallD.room, .int .i64 smallD.home, .int .i64 smallD.win.fr, .int .i64 smallD.win.to, .bool smallD.retired] 33))) := by
    refine ⟨HB3.out, HM2.out.keep (((Below.refl _ _).alloc (Nat.le_refl _) _).alloc (by simp) _), fun p hp => ?_, fun p hp => ?_⟩
    · simp only [List.mem_cons, List.not_mem_nil, or_false] at hp
      subst hp
      exact OBox.below (o := smallO) (Blk.new w2 _ _) ((Below.refl _ _).alloc (Nat.le_refl _) _)
    · simp only [List.mem_cons, List.not_mem_nil, or_false] at hp
      subst hp
      have := Blk.new (w2.alloc (.cells #[.int .i64 smallO.id, .int .i64 smallO.size, .int .i64 smallO.pick.place, .int .i64 smallO.pick.win.fr, .int .i64 smallO.pick.win.to, .int .i64 smallO.pick.serv, .int .i64 smallO.drop.place, .int .i64 smallO.drop.win.fr, .int .i64 smallO.drop.win.to, .int .i64 smallO.drop.serv] 31)) 33 [.int .i64 smallD.id, .int .i64 smallD.room, .int .i64 smallD.home, .int .i64 smallD.win.fr, .int .i64 smallD.win.to, .bool smallD.retired]
      rw [World.size_alloc] at this
      exact this
  clear HB2 HM2 HB3
  have E0 : Hid (ordE (some smallM) smallO = 0) := by show _ = _; decide
  have E1 : Hid (drvE (some smallM) smallD = 0) := by show _ = _; decide
  have E2 : Hid (ordE (some smallM) ⟨smallO.id, 0, smallO.pick, smallO.drop⟩ = 14) := by show _ = _; decide
  have E3 : Hid (ordE (some smallM) ⟨smallO.id, smallO.size, ⟨2, smallO.pick.win, smallO.pick.serv⟩, smallO.drop⟩ = 12) := by show _ = _; decide
  have E4 : Hid (ordE (some smallM) ⟨smallO.id, smallO.size, smallO.pick, ⟨smallO.drop.place, ⟨5, 4⟩, smallO.drop.serv⟩⟩ = 13) := by show _ = _; decide
  have E5 : Hid (ordE (some smallM) ⟨smallO.id, smallO.size, smallO.pick, ⟨smallO.drop.place, smallO.drop.win, -1⟩⟩ = 7) := by show _ = _; decide
  have E6 : Hid (optV (alone (some smallM) smallD smallO) = .tuple #[.int .i64 16, .bool true]) := optV_some (by decide)
  have E7 : Hid (optV (alone (some smallM) ⟨smallD.id, 2, smallD.home, smallD.win, smallD.retired⟩ smallO) = .tuple #[.int .i64 0, .bool false]) := optV_none (by decide)
  have E8 : Hid (optV (alone (some smallM) ⟨smallD.id, smallD.room, smallD.home, ⟨smallD.win.fr, 15⟩, smallD.retired⟩ smallO) = .tuple #[.int .i64 0, .bool false]) := optV_none (by decide)
  have E9 : Hid (optV (alone (some smallM) ⟨smallD.id, smallD.room, smallD.home, ⟨3, smallD.win.to⟩, smallD.retired⟩ smallO) = .tuple #[.int .i64 0, .bool false]) := optV_none (by decide)
  generalize smallO = o at *
  generalize smallD = d at *
  obtain ⟨g, hg⟩ : ∃ g, w2.heap.size = g := ⟨_, rfl⟩
  refine (gorder_val W.heap.size _ _ _ (by exact R3.out.2.1) o 0 E0.out).mono ?_
  rintro e w3 ⟨rfl, hb⟩
  have R4 := Lib.hid (R3.out.below hb)
  rw [hg] at R4
  obtain ⟨c0, c1, c2, c3, c4, c5, c6, c7, c8, c9⟩ := (R4.out.ord (g := g) (o := o) (by simp)).cells
  obtain ⟨d0, d1, d2, d3, d4, d5⟩ := (R4.out.drv (g := g + 1) (d := d) (by simp)).cells
  clear hb R3
  go_wp2_with fail
  refine (gdriver_val W.heap.size _ _ _ (by exact R4.out.2.1) d 0 E1.out).mono ?_
  rintro e w4 ⟨rfl, hb⟩
  have R5 := Lib.hid (R4.out.below hb)
  clear hb R4 c0 c1 c2 c3 c4 c5 c6 c7 c8 c9 d0 d1 d2 d3 d4 d5
  obtain ⟨c0, c1, c2, c3, c4, c5, c6, c7, c8, c9⟩ := (R5.out.ord (g := g) (o := o) (by simp)).cells
  have HS : Hid (∀ u, Below w4.heap.size w4 u → _) := fun u hu => ((R5.out.ord (g := g) (o := o) (by simp)).below hu).cells
  clear hg
  go_upto_region 5 with fail
  go_cut [5, 6, 7, 8] (fun a b c f wx => ∃ ga gb gc gf, a = .pointer (some ⟨ga, 0, none⟩) ∧ b = .pointer (some ⟨gb, 0, none⟩) ∧ c = .pointer (some ⟨gc, 0, none⟩) ∧ f = .pointer (some ⟨gf, 0, none⟩) ∧ Hid (Cpy w4 o ga gb gc gf wx))
  case first =>
    go_region_held3 (fun u => (u.cell? ⟨g, 0, none⟩ = some (.int .i64 o.id) ∧ u.cell? ⟨g, 1, none⟩ = some (.int .i64 o.size) ∧ u.cell? ⟨g, 2, none⟩ = some (.int .i64 o.pick.place) ∧ u.cell? ⟨g, 3, none⟩ = some (.int .i64 o.pick.win.fr) ∧ u.cell? ⟨g, 4, none⟩ = some (.int .i64 o.pick.win.to) ∧ u.cell? ⟨g, 5, none⟩ = some (.int .i64 o.pick.serv) ∧
        u.cell? ⟨g, 6, none⟩ = some (.int .i64 o.drop.place) ∧ u.cell? ⟨g, 7, none⟩ = some (.int .i64 o.drop.win.fr) ∧ u.cell? ⟨g, 8, none⟩ = some (.int .i64 o.drop.win.to) ∧ u.cell? ⟨g, 9, none⟩ = some (.int .i64 o.drop.serv)) ∧ Below w4.heap.size w4 u)
      (first
        | (refine ⟨HS.out _ ?_, ?_⟩ <;> (repeat (first | assumption | exact Below.refl _ _ | refine Below.drew ?_ | (refine Below.alloc ?_ (by simp; try omega) _) | (refine Below.setCell ?_ (by simp; try omega) _)))))
      (first | fail)
    all_goals
      go_wp2_with fail
      go_meet
      exact ⟨_, _, _, _, rfl, rfl, rfl, rfl, by first | exact Cpy.of (by omega) (by omega) (by omega) | exact (Cpy.of (by omega) (by omega) (by omega)).drew⟩
  case rest =>
    obtain ⟨ga, gb, gc, gf, rfl, rfl, rfl, rfl, HC⟩ := hcut
    obtain ⟨⟨p1, f1⟩, ⟨p2, f2⟩, ⟨p3, f3⟩, ⟨p4, f4⟩, ⟨p5, f5⟩, hbp, oa, ob, oc, of⟩ := HC.out.puts
    have R6 : Hid (RS W (some z) [(g, o), (ga, ⟨o.id, 0, o.pick, o.drop⟩), (gb, ⟨o.id, o.size, ⟨2, o.pick.win, o.pick.serv⟩, o.drop⟩), (gc, ⟨o.id, o.size, o.pick, ⟨o.drop.place, ⟨5, 4⟩, o.drop.serv⟩⟩), (gf, ⟨o.id, o.size, o.pick, ⟨o.drop.place, o.drop.win, -1⟩⟩)] [(g + 1, d)] (puts wc ga gb gc gf)) := by
      have h := R5.out.below hbp
      refine ⟨h.1, h.2.1, fun p hp => ?_, h.2.2.2⟩
      simp only [List.mem_cons, List.not_mem_nil, or_false] at hp
      rcases hp with rfl | rfl | rfl | rfl | rfl
      · exact h.ord (g := g) (o := o) (by simp)
      · exact oa
      · exact ob
      · exact oc
      · exact of
    obtain ⟨a0, a1, a2, a3, a4, a5, a6, a7, a8, a9⟩ := (R6.out.ord (g := ga) (o := ⟨o.id, 0, o.pick, o.drop⟩) (by simp)).cells
    simp only at a0 a1 a2 a3 a4 a5 a6 a7 a8 a9
    unfold puts at a0 a1 a2 a3 a4 a5 a6 a7 a8 a9
    clear hbp oa ob oc of HC HS R5 c0 c1 c2 c3 c4 c5 c6 c7 c8 c9
    go_wp2_with fail
    refine (gorder_val W.heap.size _ _ _ (by exact R6.out.2.1) ⟨o.id, 0, o.pick, o.drop⟩ 14 E2.out).mono ?_
    rintro e w5 ⟨rfl, hb⟩
    have R7 := Lib.hid (R6.out.below hb)
    clear hb R6 a0 a1 a2 a3 a4 a5 a6 a7 a8 a9 p1 p2 p3 p4 p5 f1 f2 f3 f4 f5
    obtain ⟨a0, a1, a2, a3, a4, a5, a6, a7, a8, a9⟩ := (R7.out.ord (g := gb) (o := ⟨o.id, o.size, ⟨2, o.pick.win, o.pick.serv⟩, o.drop⟩) (by simp)).cells
    simp only at a0 a1 a2 a3 a4 a5 a6 a7 a8 a9
    go_wp2_with fail
    refine (gorder_val W.heap.size _ _ _ (by exact R7.out.2.1) ⟨o.id, o.size, ⟨2, o.pick.win, o.pick.serv⟩, o.drop⟩ 12 E3.out).mono ?_
    rintro e w6 ⟨rfl, hb⟩
    have R8 := Lib.hid (R7.out.below hb)
    clear hb R7 a0 a1 a2 a3 a4 a5 a6 a7 a8 a9
    obtain ⟨a0, a1, a2, a3, a4, a5, a6, a7, a8, a9⟩ := (R8.out.ord (g := gc) (o := ⟨o.id, o.size, o.pick, ⟨o.drop.place, ⟨5, 4⟩, o.drop.serv⟩⟩) (by simp)).cells
    simp only at a0 a1 a2 a3 a4 a5 a6 a7 a8 a9
    go_wp2_with fail
    refine (gorder_val W.heap.size _ _ _ (by exact R8.out.2.1) ⟨o.id, o.size, o.pick, ⟨o.drop.place, ⟨5, 4⟩, o.drop.serv⟩⟩ 13 E4.out).mono ?_
    rintro e w7 ⟨rfl, hb⟩
    have R9 := Lib.hid (R8.out.below hb)
    clear hb R8 a0 a1 a2 a3 a4 a5 a6 a7 a8 a9
    obtain ⟨a0, a1, a2, a3, a4, a5, a6, a7, a8, a9⟩ := (R9.out.ord (g := gf) (o := ⟨o.id, o.size, o.pick, ⟨o.drop.place, o.drop.win, -1⟩⟩) (by simp)).cells
    simp only at a0 a1 a2 a3 a4 a5 a6 a7 a8 a9
    go_wp2_with fail
    refine (gorder_val W.heap.size _ _ _ (by exact R9.out.2.1) ⟨o.id, o.size, o.pick, ⟨o.drop.place, o.drop.win, -1⟩⟩ 7 E5.out).mono ?_
    rintro e w8 ⟨rfl, hb⟩
    have RA := Lib.hid (R9.out.below hb)
    clear hb R9 a0 a1 a2 a3 a4 a5 a6 a7 a8 a9
    obtain ⟨a0, a1, a2, a3, a4, a5, a6, a7, a8, a9⟩ := (RA.out.ord (g := g) (o := o) (by simp)).cells
    obtain ⟨d0, d1, d2, d3, d4, d5⟩ := (RA.out.drv (g := g + 1) (d := d) (by simp)).cells
    go_wp2_with fail
    refine (galone_val W.heap.size _ _ _ (by exact RA.out.2.1) d o 16 true E6.out).mono ?_
    rintro e w9 ⟨rfl, hb⟩
    have RB : Hid (RS W (some z) [(g, o)] [(g + 1, d)] w9) := by
      have h := RA.out.below hb
      exact ⟨h.1, h.2.1, fun p hp => h.2.2.1 p (by simp at hp; simp [hp]), h.2.2.2⟩
    clear hb RA a0 a1 a2 a3 a4 a5 a6 a7 a8 a9 d0 d1 d2 d3 d4 d5
    obtain ⟨d0, d1, d2, d3, d4, d5⟩ := (RB.out.drv (g := g + 1) (d := d) (by simp)).cells
    have HS : Hid (∀ u, Below w9.heap.size w9 u → _) := fun u hu => ((RB.out.drv (g := g + 1) (d := d) (by simp)).below hu).cells
    go_upto_region 14 with fail
    go_cut [11, 12, 13] (fun a b c wx => ∃ ga gb gc, a = .pointer (some ⟨ga, 0, none⟩) ∧ b = .pointer (some ⟨gb, 0, none⟩) ∧ c = .pointer (some ⟨gc, 0, none⟩) ∧ Hid (CpyD w9 d ga gb gc wx))
    case first =>
      go_region_held3 (fun u => (u.cell? ⟨g + 1, 0, none⟩ = some (.int .i64 d.id) ∧ u.cell? ⟨g + 1, 1, none⟩ = some (.int .i64 d.room) ∧ u.cell? ⟨g + 1, 2, none⟩ = some (.int .i64 d.home) ∧ u.cell? ⟨g + 1, 3, none⟩ = some (.int .i64 d.win.fr) ∧ u.cell? ⟨g + 1, 4, none⟩ = some (.int .i64 d.win.to) ∧ u.cell? ⟨g + 1, 5, none⟩ = some (.bool d.retired)) ∧ Below w9.heap.size w9 u)
        (first
          | (refine ⟨HS.out _ ?_, ?_⟩ <;> (repeat (first | assumption | exact Below.refl _ _ | refine Below.drew ?_ | (refine Below.alloc ?_ (by simp; try omega) _) | (refine Below.setCell ?_ (by simp; try omega) _)))))
        (first | fail)
      all_goals
        go_wp2_with fail
        go_meet
        exact ⟨_, _, _, rfl, rfl, rfl, by first | exact CpyD.of (by omega) (by omega) (by omega) | exact (CpyD.of (by omega) (by omega) (by omega)).drew⟩
    case rest =>
      obtain ⟨ha, hb, hc, rfl, rfl, rfl, HC⟩ := hcut
      obtain ⟨⟨p1, f1⟩, ⟨p2, f2⟩, ⟨p3, f3⟩, hbp, oa, ob, oc⟩ := HC.out.puts
      have RC : Hid (RS W (some z) [(g, o)] [(g + 1, d), (ha, ⟨d.id, 2, d.home, d.win, d.retired⟩), (hb, ⟨d.id, d.room, d.home, ⟨d.win.fr, 15⟩, d.retired⟩), (hc, ⟨d.id, d.room, d.home, ⟨3, d.win.to⟩, d.retired⟩)] (putsD wc ha hb hc)) := by
        have h := RB.out.below hbp
        refine ⟨h.1, h.2.1, h.2.2.1, fun p hp => ?_⟩
        simp only [List.mem_cons, List.not_mem_nil, or_false] at hp
        rcases hp with rfl | rfl | rfl | rfl
        · exact h.drv (g := g + 1) (d := d) (by simp)
        · exact oa
        · exact ob
        · exact oc
      clear d0 d1 d2 d3 d4 d5
      obtain ⟨a0, a1, a2, a3, a4, a5, a6, a7, a8, a9⟩ := (RC.out.ord (g := g) (o := o) (by simp)).cells
      obtain ⟨d0, d1, d2, d3, d4, d5⟩ := (RC.out.drv (g := ha) (d := ⟨d.id, 2, d.home, d.win, d.retired⟩) (by simp)).cells
      simp only at d0 d1 d2 d3 d4 d5
      unfold putsD at a0 a1 a2 a3 a4 a5 a6 a7 a8 a9 d0 d1 d2 d3 d4 d5
      clear hbp oa ob oc HC HS RB
      go_wp2_with fail
      refine (galone_val W.heap.size _ _ _ (by exact RC.out.2.1) ⟨d.id, 2, d.home, d.win, d.retired⟩ o 0 false E7.out).mono ?_
      rintro e x1 ⟨rfl, hbx⟩
      have RD := Lib.hid (RC.out.below hbx)
      clear hbx RC a0 a1 a2 a3 a4 a5 a6 a7 a8 a9 d0 d1 d2 d3 d4 d5 p1 p2 p3 f1 f2 f3
      obtain ⟨a0, a1, a2, a3, a4, a5, a6, a7, a8, a9⟩ := (RD.out.ord (g := g) (o := o) (by simp)).cells
      obtain ⟨d0, d1, d2, d3, d4, d5⟩ := (RD.out.drv (g := hb) (d := ⟨d.id, d.room, d.home, ⟨d.win.fr, 15⟩, d.retired⟩) (by simp)).cells
      simp only at d0 d1 d2 d3 d4 d5
      go_wp2_with fail
      refine (galone_val W.heap.size _ _ _ (by exact RD.out.2.1) ⟨d.id, d.room, d.home, ⟨d.win.fr, 15⟩, d.retired⟩ o 0 false E8.out).mono ?_
      rintro e x2 ⟨rfl, hbx⟩
      have RE := Lib.hid (RD.out.below hbx)
      clear hbx RD a0 a1 a2 a3 a4 a5 a6 a7 a8 a9 d0 d1 d2 d3 d4 d5
      obtain ⟨a0, a1, a2, a3, a4, a5, a6, a7, a8, a9⟩ := (RE.out.ord (g := g) (o := o) (by simp)).cells
      obtain ⟨d0, d1, d2, d3, d4, d5⟩ := (RE.out.drv (g := hc) (d := ⟨d.id, d.room, d.home, ⟨3, d.win.to⟩, d.retired⟩) (by simp)).cells
      simp only at d0 d1 d2 d3 d4 d5
      go_wp2_with fail
      refine (galone_val W.heap.size _ _ _ (by exact RE.out.2.1) ⟨d.id, d.room, d.home, ⟨3, d.win.to⟩, d.retired⟩ o 0 false E9.out).mono ?_
      rintro e x3 ⟨rfl, hbx⟩
      have RF := Lib.hid (RE.out.below hbx)
      clear hbx RE a0 a1 a2 a3 a4 a5 a6 a7 a8 a9 d0 d1 d2 d3 d4 d5
      go_wp2_with fail
      go_ret
      exact ⟨rfl, RF.out.1⟩

#print axioms runs_any
end Go.Proofs.Ytofkhpcigjcegaa.Deal
