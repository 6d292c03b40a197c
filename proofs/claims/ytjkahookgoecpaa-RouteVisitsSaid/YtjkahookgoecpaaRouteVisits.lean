/-
  RouteVisits walked.
-/
import Derived.Test.YtjkahookgoecpaaRouteEarly
namespace Go.Proofs.Ytjkahookgoecpaa.FleetMath
open Go.Proofs.Ytjkahookgoecpaa.GeoMath
theorem drive_all {m : Option Mp} {d : Drv} {os : List Ord} {stops : List Stp} {vs : List Vis} {k : Nat} (h : drive m d os stops = (vs, k, 0)) : ∃ m' st, m = some m' ∧ run m' d os [] (st0 d) stops = .ok (st, vs) ∧ known m os = true ∧ drvE m d = 0 ∧ stops.length ≤ 80 ∧ st.load ≤ 0 ∧ vs.length = stops.length ∧ cost m d os stops = some (costM m' os d.home stops) := by
  have h0 : (drive m d os stops).2.2 = 0 := by rw [h]
  obtain ⟨m', st, rfl, h2, h3, h4, h5⟩ := drive_fine h0
  have hc : cost (some m') d os stops = some (costM m' os d.home stops) := by
    show (if (drive (some m') d os stops).2.2 = 0 then some (costM m' os d.home stops) else none) = _
    rw [if_pos h0]
  have hd := drive_arg h5 h4 h3
  rw [h] at h2
  have hl : st.load ≤ 0 := by
    rw [hd] at h
    unfold driveM at h
    rw [h2] at h
    simp only at h
    split at h
    · injection h with _ h; injection h with _ h; omega
    · omega
  exact ⟨m', st, rfl, h2, h4, h5, h3, hl, run_len h2, hc⟩
end Go.Proofs.Ytjkahookgoecpaa.FleetMath
namespace Go.Proofs.Ytjkahookgoecpaa.Route
open Go.ChangeShapes Go.WideShapes Go.ChangeAt Go.RowKit Go.Proofs.Ytjkahookgoecpaa.Mem Go.Proofs.Ytjkahookgoecpaa.GeoMath Go.Proofs.Ytjkahookgoecpaa.FleetMath Go.Proofs.Ytjkahookgoecpaa.Rec Go.Proofs.Ytjkahookgoecpaa.Geo Go.Proofs.Ytjkahookgoecpaa.Span Go.Proofs.Ytjkahookgoecpaa.Deal Go.Proofs.Ytjkahookgoecpaa.Keep
set_option linter.unusedVariables false
theorem gtime_in {W u : World} {q : Option Addr} {x : Wd} {os : List FleetMath.Ord} {d : Drv} {A : Option Addr} {n : Nat} {stops : List Stp} {m' : Mp} (h : LR W q (some m') x os d A n stops u) (a c t : Int) (ht : time m' a c = t) (ha : isPlace m' a = true) (hc : isPlace m' c = true) :
    Calls Try.prog 23 #[.pointer q, .int .i64 a, .int .i64 c] u fun en u' => en = .returned (.tuple #[.int .i64 t, .bool true]) ∧ Below u.heap.size u u' := by
  have := gtime_on h a c t ht
  rw [ha, hc] at this
  exact this

set_option maxRecDepth 100000 in
set_option maxHeartbeats 8000000 in
theorem routeVisits_walk (x : Wd) (ts : List Int) (os : List FleetMath.Ord) (d : Drv) (A : Option Addr) (n c : Nat) (stops : List Stp) (W : World) (hts : Ints W W.heap.size x.ts.a x.ts.n ts) (hos : Ords W W.heap.size x.os.a x.os.n os) (hst : Stps W W.heap.size A n stops) (hc : n ≤ c) :
    Calls Try.prog 5 #[wdV x, drvV d, .slice A n c] W fun e w' => e = .returned (.bool true) ∧ Below W.heap.size W w' := by
  have HTS := Lib.hid hts
  have HOS := Lib.hid hos
  have HST := Lib.hid hst
  have HLO := Lib.hid hos.length
  have hnm := Recs.le hst
  clear hts hos hst
  obtain ⟨m, hm⟩ : ∃ m, mapOf x.n ts = m := ⟨_, rfl⟩
  have HM := Lib.hid hm
  clear hm
  have HB0 : Hid (Below W.heap.size W ((W.alloc (.cells #[.int .i64 x.n, x.ts.v, x.ds.v, x.os.v, x.pl.v] 52)).alloc (.cells #[.int .i64 d.id, .int .i64 d.room, .int .i64 d.home, .int .i64 d.win.fr, .int .i64 d.win.to, .bool d.retired] 33))) := ((Below.refl _ _).alloc (Nat.le_refl _) _).alloc (by simp) _
  have HW0 : Hid (WBox ((W.alloc (.cells #[.int .i64 x.n, x.ts.v, x.ds.v, x.os.v, x.pl.v] 52)).alloc (.cells #[.int .i64 d.id, .int .i64 d.room, .int .i64 d.home, .int .i64 d.win.fr, .int .i64 d.win.to, .bool d.retired] 33)) W.heap.size x) := (WBox.new W x).below ((Below.refl _ _).alloc (Nat.le_refl _) _)
  have HD0 : Hid (DBox ((W.alloc (.cells #[.int .i64 x.n, x.ts.v, x.ds.v, x.os.v, x.pl.v] 52)).alloc (.cells #[.int .i64 d.id, .int .i64 d.room, .int .i64 d.home, .int .i64 d.win.fr, .int .i64 d.win.to, .bool d.retired] 33)) (W.heap.size + 1) d) := by
    have := Blk.new (W.alloc (.cells #[.int .i64 x.n, x.ts.v, x.ds.v, x.os.v, x.pl.v] 52)) 33 [.int .i64 d.id, .int .i64 d.room, .int .i64 d.home, .int .i64 d.win.fr, .int .i64 d.win.to, .bool d.retired]
    rw [World.size_alloc] at this
    exact this
  obtain ⟨⟨vs, fk, fe⟩, hdr⟩ : ∃ r, drive m d os stops = r := ⟨_, rfl⟩
  have HDR := Lib.hid hdr
  clear hdr
  go_enter Try.func5, Try.ntmps5
  go_wp2_with fail
  refine (kmaps_any x ts _ (by exact Reads.more (Reads.keep HTS.out HB0.out) HB0.out.size)).mono ?_
  rintro e w1 ⟨hb1, q, r, rfl, hq, _⟩
  have L1 : Hid (LR W q m x os d A n stops w1) := by
    have HM' := HM.out
    rw [HM'] at hq
    exact ⟨HB0.out.trans (hb1.mono HB0.out.size), hq.lower HB0.out.size, HW0.out.below hb1, HD0.out.below hb1, HOS.out, HST.out⟩
  clear hb1 hq HB0 HW0 HD0 HTS HOS HST HM
  obtain ⟨⟨d0, d1, d2, d3, d4, d5⟩, e0⟩ := L1.out.cells
  go_wp2_with fail
  refine (LR.drive_of L1.out L1.out.ords x.os.h hc vs fk fe HDR.out).mono ?_
  rintro e w2 ⟨B, c5, rfl, hb, hvs⟩
  have L2 := Lib.hid ((L1.out.below hb).alloc (.cells #[.int .i64 fk, .int .i64 fe] 39))
  have F2 : Hid (FBox (w2.alloc (.cells #[.int .i64 fk, .int .i64 fe] 39)) w2.heap.size fk fe) := Blk.new w2 _ _
  have V2 : Hid (Viss (w2.alloc (.cells #[.int .i64 fk, .int .i64 fe] 39)) (w2.alloc (.cells #[.int .i64 fk, .int .i64 fe] 39)).heap.size B vs.length vs) := Recs.more (Recs.alloc hvs (Nat.le_refl _) _) (by simp)
  clear hb hvs L1 d0 d1 d2 d3 d4 d5 e0
  obtain ⟨gf, hgf⟩ : ∃ g, w2.heap.size = g := ⟨_, rfl⟩
  obtain ⟨w3, hw3⟩ : ∃ w, w2.alloc (.cells #[.int .i64 fk, .int .i64 fe] 39) = w := ⟨_, rfl⟩
  go_upto_region 5 with fail
  rw [hgf, hw3] at F2
  rw [hw3] at L2 V2
  clear hgf hw3
  obtain ⟨z0, z1⟩ := F2.out.cells
  have HLS := Lib.hid L2.out.stops0.length
  have HKN : Hid (fk ≤ n) := by
    show fk ≤ n
    have := HLS.out
    rcases drive_cases HDR.out with ⟨_, h⟩ | ⟨_, h⟩ | ⟨_, h⟩ | ⟨_, _, _, h, _⟩ <;> omega
  go_wp2_with fail
  refine (fgood_any fk fe _).mono ?_
  rintro e w4 ⟨rfl, hb⟩
  have L4 := Lib.hid (L2.out.below hb)
  have F4 := Lib.hid (F2.out.below hb)
  have V4 : Hid (Viss w4 w4.heap.size B vs.length vs) := Recs.more (Recs.keep V2.out hb) hb.size
  clear hb L2 F2 V2 z0 z1
  by_cases he : fe = 0
  case neg =>
    have hz : vs = [] := by
      have := drive_empty (m := m) (d := d) (os := os) (stops := stops) (by rw [HDR.out]; exact he)
      rw [HDR.out] at this
      exact this
    subst hz
    have e1 : (fe == 0) = false := by simpa using he
    rw [e1]
    clear he e1
    simp only [List.length_nil]
    obtain ⟨z0, z1⟩ := F4.out.cells
    have g0 : (0 : Int) ≤ (fk : Int) := by omega
    have g1 : (fk : Int) ≤ (n : Int) := by have := HKN.out; omega
    go_wp2_with fail
    refine (runs_any _).mono ?_
    rintro e w5 ⟨rfl, hb⟩
    have LZ : Hid (Below W.heap.size W w5) := L4.out.old.trans (hb.mono L4.out.old.size)
    clear hb
    go_wp2_with fail
    go_ret
    exact ⟨rfl, LZ.out⟩
  subst he
  obtain ⟨m', stF, hmm, hrun, hkn, hdv, h80, hld, hlen, hcost⟩ := drive_all HDR.out
  subst hmm
  obtain ⟨_, hm2, hdok⟩ := drvE_ok.1 hdv
  injection hm2 with hm2
  subst hm2
  have hvn : vs.length = n := by have := HLS.out; omega
  have hn80 : n ≤ 80 := by have := HLS.out; omega
  rw [hvn] at V4 ⊢
  have HRUN := Lib.hid hrun
  have HKW := Lib.hid hkn
  have HDV := Lib.hid hdok
  have HLD := Lib.hid hld
  have HCO := Lib.hid hcost
  have HTB := Lib.hid L4.out.bounds
  have hwin := right_iff.1 hdok.win
  have HCB : Hid (∀ k, k ≤ n → 0 ≤ costM m' os d.home (stops.take k) ∧ costM m' os d.home (stops.take k) ≤ 80000000) := fun k hk => by
    have h1 := costM_bound (os := os) HTB.out d.home (stops.take k)
    have h2 : (stops.take k).length ≤ 80 := by rw [List.length_take]; omega
    omega
  clear hrun hkn hdv hdok hld hcost hlen h80 hvn
  have L2 := L4
  have V2 := V4
  obtain ⟨w3, rfl⟩ : ∃ w, w = w4 := ⟨_, rfl⟩
  clear L4 V4 F4
  obtain ⟨⟨d0, d1, d2, d3, d4, d5⟩, e0⟩ := L2.out.cells
  go_wp2_with fail
  go_quiet (fail)
  go_wp2_with fail
  go_loopw [12, 13, 14, 15, 16] (fun av lv dv cv kv wr => ∃ (k : Nat) (at_ left load cs : Int) (us' : List Vis), k ≤ n ∧ av = .int .i64 at_ ∧ lv = .int .i64 left ∧ dv = .int .i64 load ∧ cv = .int .i64 cs ∧ kv = .int .i64 k ∧ Hid (cs = costM m' os d.home (stops.take k)) ∧ Hid (Vup m' d os stops k ⟨at_, left, load⟩ us') ∧ Hid (Below w3.heap.size w3 wr)) (fun _ _ _ _ kv _ => n - (intOf kv).toNat)
  case atStart => exact ⟨0, d.home, d.win.fr, 0, 0, [], Nat.zero_le _, rfl, rfl, rfl, rfl, rfl, (rfl : (0 : Int) = costM m' os d.home (stops.take 0)), Vup.start HDV.out, below_drewN (Below.refl _ _) _⟩
  case round =>
    clear d0 d1 d2 d3 d4 d5 e0
    obtain ⟨k, at_, left, load, cs, us', hkn, rfl, rfl, rfl, rfl, rfl, HCS, HV, HB⟩ := hrel
    have hlb := HV.out.left
    have hldb := HV.out.load
    simp only at hlb hldb
    have hcb := HCB.out k hkn
    rw [← HCS.out] at hcb
    by_cases hlt : k < n
    · obtain ⟨sb, so, s, rfl, _, hs, _, p0, p1⟩ := Stps.at_ (L2.out.below HB.out).stps hlt
      have HSK := Lib.hid hs
      clear hs p0 p1
      obtain ⟨o, v, hv, hv1, hvn⟩ := HV.out.next HRUN.out HKW.out HDV.out HSK.out
      have HFO := Lib.hid hv1.find
      have HVK := Lib.hid hv
      have HV1 := Lib.hid hv1
      have HVN := Lib.hid hvn
      clear hv hv1 hvn
      have hki : (k : Int) < (n : Int) := by omega
      have HC : Hid (∀ u, Below wr.heap.size wr u → (u.cell? ⟨W.heap.size, 3, none⟩ = some (.slice x.os.a x.os.n x.os.c) ∧ u.cell? ⟨sb, so + k * 2, none⟩ = some (.int .i64 s.ord) ∧ u.cell? ⟨sb, so + k * 2 + 1, none⟩ = some (.bool s.drop)) ∧ Below wr.heap.size wr u) := fun u hu => by
        have hL := L2.out.below (HB.out.trans (hu.mono HB.out.size))
        obtain ⟨b', off', s', e0, _, hs', _, x0, x1⟩ := Stps.at_ hL.stps hlt
        injection e0 with e0
        injection e0 with e2 e3 _
        subst e2
        subst e3
        have h3 := HSK.out
        rw [hs'] at h3
        injection h3 with h3
        subst h3
        exact ⟨⟨hL.cells.2, x0, x1⟩, hu⟩
      have HL : Hid (∀ u, Below wr.heap.size wr u → LR W q (some m') x os d (some ⟨sb, so, none⟩) n stops u) := fun u hu => L2.out.below (HB.out.trans (hu.mono HB.out.size))
      have BA : Hid (Below wr.heap.size wr wr.drew) := (Below.refl _ _).drew
      have BB : Hid (Below wr.heap.size wr (wr.alloc (.cells #[.int .i64 0, .int .i64 0, .int .i64 0, .int .i64 0, .int .i64 0, .int .i64 0, .int .i64 0, .int .i64 0, .int .i64 0, .int .i64 0] 31)).drew) := ((Below.refl _ _).alloc (Nat.le_refl _) _).drew
      have BC : Hid (Below wr.heap.size wr (wr.alloc (.cells #[.int .i64 0, .int .i64 0, .int .i64 0, .int .i64 0] 29)).drew) := ((Below.refl _ _).alloc (Nat.le_refl _) _).drew
      have BD : Hid (Below wr.heap.size wr ((wr.alloc (.cells #[.int .i64 0, .int .i64 0, .int .i64 0, .int .i64 0, .int .i64 0, .int .i64 0, .int .i64 0, .int .i64 0, .int .i64 0, .int .i64 0] 31)).alloc (.cells #[.int .i64 0, .int .i64 0, .int .i64 0, .int .i64 0] 29)).drew) := (((Below.refl _ _).alloc (Nat.le_refl _) _).alloc (by simp) _).drew
      have BE : Hid (Below wr.heap.size wr ((wr.alloc (.cells #[.int .i64 0, .int .i64 0, .int .i64 0, .int .i64 0] 29)).alloc (.cells #[.int .i64 0, .int .i64 0, .int .i64 0, .int .i64 0, .int .i64 0, .int .i64 0, .int .i64 0, .int .i64 0, .int .i64 0, .int .i64 0] 31)).drew) := (((Below.refl _ _).alloc (Nat.le_refl _) _).alloc (by simp) _).drew
      go_upto_region 13 with fail
      go_cut [17, 18, 19] from 78 to 88 (fun v17 v18 v19 wx => ∃ g1 g2, v17 = .pointer (some ⟨g1, 0, none⟩) ∧ v18 = .pointer (some ⟨g2, 0, none⟩) ∧ v19 = .bool true ∧ Hid (Bxs wr g1 g2 o (siteOf o s) wx))
      case first =>
        go_region_held3 (fun u => (u.cell? ⟨W.heap.size, 3, none⟩ = some (.slice x.os.a x.os.n x.os.c) ∧ u.cell? ⟨sb, so + k * 2, none⟩ = some (.int .i64 s.ord) ∧ u.cell? ⟨sb, so + k * 2 + 1, none⟩ = some (.bool s.drop)) ∧ Below wr.heap.size wr u)
          (first
            | with_reducible exact HC.out _ BA.out
            | with_reducible exact HC.out _ BB.out
            | with_reducible exact HC.out _ BC.out
            | with_reducible exact HC.out _ BD.out
            | with_reducible exact HC.out _ BE.out
            | with_reducible exact HC.out _ hb8
            | with_reducible exact HC.out _ (Below.alloc hb8 hsz _)
            | with_reducible exact HC.out _ (below_alloc2 hb8 hsz _ _)
            | with_reducible exact HC.out _ (b10 hb8 (Nat.le_refl _))
            | with_reducible exact HC.out _ (b10 hb8 (Nat.le_succ _))
            | with_reducible exact HC.out _ (b4 hb8 (Nat.le_refl _))
            | with_reducible exact HC.out _ (b10a hb8 (Nat.le_refl _) _)
            | with_reducible exact HC.out _ (b4a hb8 (Nat.le_refl _) _)
            | with_reducible exact HC.out _ (b104 hb8 (Nat.le_refl _) (Nat.le_succ _))
            | with_reducible exact HC.out _ (b104 hb8 (Nat.le_succ _) (Nat.le_refl _)))
          (first
            | (go_at_call 22; (with_reducible refine at_calls wr.drew ?_); (refine (site_on (HL.out _ BA.out) s o HFO.out).mono ?_); rintro e w8 ⟨rfl, hby⟩; have hb8 : Below wr.heap.size wr w8 := BA.out.trans (hby.mono BA.out.size); have hsz := hb8.size; skip)
            | (go_at_call 22; (with_reducible refine at_calls (wr.alloc (.cells #[.int .i64 0, .int .i64 0, .int .i64 0, .int .i64 0, .int .i64 0, .int .i64 0, .int .i64 0, .int .i64 0, .int .i64 0, .int .i64 0] 31)).drew ?_); (refine (site_on (HL.out _ BB.out) s o HFO.out).mono ?_); rintro e w8 ⟨rfl, hby⟩; have hb8 : Below wr.heap.size wr w8 := BB.out.trans (hby.mono BB.out.size); have hsz := hb8.size; have XO := Lib.hid (box_kept hby); have hltXO := XO.out.lt; have rXO0 := XO.out.cell (i := 0) rfl; have sXO0 := XO.out.free 0; have rXO1 := XO.out.cell (i := 1) rfl; have sXO1 := XO.out.free 1; have rXO2 := XO.out.cell (i := 2) rfl; have sXO2 := XO.out.free 2; have rXO3 := XO.out.cell (i := 3) rfl; have sXO3 := XO.out.free 3; have rXO4 := XO.out.cell (i := 4) rfl; have sXO4 := XO.out.free 4; have rXO5 := XO.out.cell (i := 5) rfl; have sXO5 := XO.out.free 5; have rXO6 := XO.out.cell (i := 6) rfl; have sXO6 := XO.out.free 6; have rXO7 := XO.out.cell (i := 7) rfl; have sXO7 := XO.out.free 7; have rXO8 := XO.out.cell (i := 8) rfl; have sXO8 := XO.out.free 8; have rXO9 := XO.out.cell (i := 9) rfl; have sXO9 := XO.out.free 9)
            | (go_at_call 22; (with_reducible refine at_calls (wr.alloc (.cells #[.int .i64 0, .int .i64 0, .int .i64 0, .int .i64 0] 29)).drew ?_); (refine (site_on (HL.out _ BC.out) s o HFO.out).mono ?_); rintro e w8 ⟨rfl, hby⟩; have hb8 : Below wr.heap.size wr w8 := BC.out.trans (hby.mono BC.out.size); have hsz := hb8.size; have XS := Lib.hid (box_kept hby); have hltXS := XS.out.lt; have rXS0 := XS.out.cell (i := 0) rfl; have sXS0 := XS.out.free 0; have rXS1 := XS.out.cell (i := 1) rfl; have sXS1 := XS.out.free 1; have rXS2 := XS.out.cell (i := 2) rfl; have sXS2 := XS.out.free 2; have rXS3 := XS.out.cell (i := 3) rfl; have sXS3 := XS.out.free 3)
            | (go_at_call 22; (with_reducible refine at_calls ((wr.alloc (.cells #[.int .i64 0, .int .i64 0, .int .i64 0, .int .i64 0, .int .i64 0, .int .i64 0, .int .i64 0, .int .i64 0, .int .i64 0, .int .i64 0] 31)).alloc (.cells #[.int .i64 0, .int .i64 0, .int .i64 0, .int .i64 0] 29)).drew ?_); (refine (site_on (HL.out _ BD.out) s o HFO.out).mono ?_); rintro e w8 ⟨rfl, hby⟩; have hb8 : Below wr.heap.size wr w8 := BD.out.trans (hby.mono BD.out.size); have hsz := hb8.size; have XO := Lib.hid (box_kept2a hby); have XS := Lib.hid (box_kept2b hby); have hltXO := XO.out.lt; have rXO0 := XO.out.cell (i := 0) rfl; have sXO0 := XO.out.free 0; have rXO1 := XO.out.cell (i := 1) rfl; have sXO1 := XO.out.free 1; have rXO2 := XO.out.cell (i := 2) rfl; have sXO2 := XO.out.free 2; have rXO3 := XO.out.cell (i := 3) rfl; have sXO3 := XO.out.free 3; have rXO4 := XO.out.cell (i := 4) rfl; have sXO4 := XO.out.free 4; have rXO5 := XO.out.cell (i := 5) rfl; have sXO5 := XO.out.free 5; have rXO6 := XO.out.cell (i := 6) rfl; have sXO6 := XO.out.free 6; have rXO7 := XO.out.cell (i := 7) rfl; have sXO7 := XO.out.free 7; have rXO8 := XO.out.cell (i := 8) rfl; have sXO8 := XO.out.free 8; have rXO9 := XO.out.cell (i := 9) rfl; have sXO9 := XO.out.free 9; have hltXS := XS.out.lt; have rXS0 := XS.out.cell (i := 0) rfl; have sXS0 := XS.out.free 0; have rXS1 := XS.out.cell (i := 1) rfl; have sXS1 := XS.out.free 1; have rXS2 := XS.out.cell (i := 2) rfl; have sXS2 := XS.out.free 2; have rXS3 := XS.out.cell (i := 3) rfl; have sXS3 := XS.out.free 3)
            | (go_at_call 22; (with_reducible refine at_calls ((wr.alloc (.cells #[.int .i64 0, .int .i64 0, .int .i64 0, .int .i64 0] 29)).alloc (.cells #[.int .i64 0, .int .i64 0, .int .i64 0, .int .i64 0, .int .i64 0, .int .i64 0, .int .i64 0, .int .i64 0, .int .i64 0, .int .i64 0] 31)).drew ?_); (refine (site_on (HL.out _ BE.out) s o HFO.out).mono ?_); rintro e w8 ⟨rfl, hby⟩; have hb8 : Below wr.heap.size wr w8 := BE.out.trans (hby.mono BE.out.size); have hsz := hb8.size; have XS := Lib.hid (box_kept2a hby); have XO := Lib.hid (box_kept2b hby); have hltXO := XO.out.lt; have rXO0 := XO.out.cell (i := 0) rfl; have sXO0 := XO.out.free 0; have rXO1 := XO.out.cell (i := 1) rfl; have sXO1 := XO.out.free 1; have rXO2 := XO.out.cell (i := 2) rfl; have sXO2 := XO.out.free 2; have rXO3 := XO.out.cell (i := 3) rfl; have sXO3 := XO.out.free 3; have rXO4 := XO.out.cell (i := 4) rfl; have sXO4 := XO.out.free 4; have rXO5 := XO.out.cell (i := 5) rfl; have sXO5 := XO.out.free 5; have rXO6 := XO.out.cell (i := 6) rfl; have sXO6 := XO.out.free 6; have rXO7 := XO.out.cell (i := 7) rfl; have sXO7 := XO.out.free 7; have rXO8 := XO.out.cell (i := 8) rfl; have sXO8 := XO.out.free 8; have rXO9 := XO.out.cell (i := 9) rfl; have sXO9 := XO.out.free 9; have hltXS := XS.out.lt; have rXS0 := XS.out.cell (i := 0) rfl; have sXS0 := XS.out.free 0; have rXS1 := XS.out.cell (i := 1) rfl; have sXS1 := XS.out.free 1; have rXS2 := XS.out.cell (i := 2) rfl; have sXS2 := XS.out.free 2; have rXS3 := XS.out.cell (i := 3) rfl; have sXS3 := XS.out.free 3))
        all_goals
          go_wp2_with fail
          go_meet
          first
            | with_reducible exact ⟨_, _, rfl, rfl, rfl, Lib.hid (fin1 hb8)⟩
            | with_reducible exact ⟨_, _, rfl, rfl, rfl, Lib.hid (fin2 hb8)⟩
            | with_reducible exact ⟨_, _, rfl, rfl, rfl, Lib.hid (fin3 hb8 XO.out (Nat.le_refl _))⟩
            | with_reducible exact ⟨_, _, rfl, rfl, rfl, Lib.hid (fin4 hb8 XS.out (Nat.le_refl _))⟩
            | with_reducible exact ⟨_, _, rfl, rfl, rfl, Lib.hid (fin5 hb8 XO.out XS.out (Nat.le_refl _) (Nat.le_succ _) (by omega))⟩
            | with_reducible exact ⟨_, _, rfl, rfl, rfl, Lib.hid (fin5 hb8 XO.out XS.out (Nat.le_succ _) (Nat.le_refl _) (by omega))⟩
      case rest =>
      clear HC
      obtain ⟨g1, g2, rfl, rfl, rfl, HG⟩ := hcut
      obtain ⟨w5, rfl⟩ : ∃ w, w = wc := ⟨_, rfl⟩
      have HB5 : Hid (Below w3.heap.size w3 w5) := HB.out.trans (HG.out.1.mono HB.out.size)
      have hso := siteOf_ok HV1.out.ok s
      have hsz := HV1.out.ok.size
      obtain ⟨sp, hsp⟩ : ∃ t, siteOf o s = t := ⟨_, rfl⟩
      obtain ⟨tt, htt⟩ : ∃ t, time m' at_ sp.place = t := ⟨_, rfl⟩
      have htb := HTB.out at_ sp.place
      rw [htt] at htb
      have hcn := cost_next HV.out HSK.out HFO.out
      have f1 := HV1.out.stop
      have f2 := HV1.out.arrive
      have f3 := HV1.out.late
      have f4 := HV1.out.fr
      have f5 := HV1.out.upto
      have f6 := HV1.out.soon
      have f7 := HV1.out.leave
      have f8 := HV1.out.til
      have f9 := HV1.out.load
      have f10 := HV1.out.room
      rw [hsp] at HG hso f2 f4 f5 f6 f7 hcn HVN
      simp only at f2 hcn
      rw [htt] at f2 hcn
      rw [← HCS.out] at hcn
      obtain ⟨v1, va, vst, vl, vld⟩ := v
      simp only at f1 f2 f3 f4 f5 f6 f7 f8 f9 f10 HVN
      have f1' := f1.symm
      subst f1'
      subst f2
      subst f7
      subst f9
      have hw := right_iff.1 hso.2.1
      have hsv := hso.2.2
      have S5 : Hid (SBox w5 g2 sp) := HG.out.2.2
      have O5 : Hid (OBox w5 g1 o) := HG.out.2.1
      have HTT := Lib.hid htt
      have HPL : Hid (isPlace m' at_ = true ∧ isPlace m' sp.place = true) := ⟨HV.out.place, hso.1⟩
      have HCN := Lib.hid hcn
      have HF6 := Lib.hid f6
      clear hsp htt hso hcn HL BA BB BC BD BE HG f6
      have L5 := Lib.hid (L2.out.below HB5.out)
      obtain ⟨y0, y1, y2, y3⟩ := S5.out.cells
      go_wp2_with fail
      refine (gtime_in L5.out at_ sp.place tt HTT.out HPL.out.1 HPL.out.2).mono ?_
      rintro e w6 ⟨rfl, hb⟩
      have HB6 : Hid (Below w3.heap.size w3 w6) := HB5.out.trans (hb.mono HB5.out.size)
      have S6 := Lib.hid (S5.out.below hb)
      have O6 := Lib.hid (O5.out.below hb)
      have L6 := Lib.hid (L2.out.below HB6.out)
      clear hb L5 S5 O5 HB5 y0 y1 y2 y3
      obtain ⟨y0, y1, y2, y3⟩ := S6.out.cells
      obtain ⟨vb, vo, v', rfl, _, hv', _, q0, q1, q2, q3, q4, q5⟩ := Viss.at_ (Recs.keep V2.out HB6.out) hlt
      have h9 := HVK.out
      rw [hv'] at h9
      injection h9 with h9
      subst h9
      clear hv' q0 q1 q2 q3 q4 q5
      have hs1 : IntKind.i64.wrap (left + tt) = left + tt := IntWalk.i64_in _ (by omega)
      have hs2 : IntKind.i64.wrap (vst + sp.serv) = vst + sp.serv := IntWalk.i64_in _ (by omega)
      have g3 : decide (vst < left + tt) = false := decide_eq_false (by omega)
      have g4 : decide (vst < sp.win.fr) = false := decide_eq_false (by omega)
      have g5 : decide (sp.win.to < vst) = false := decide_eq_false (by omega)
      have g8 : decide (d.win.to < vst + sp.serv) = false := decide_eq_false (by omega)
      have HALL : Hid (∀ u, Below w3.heap.size w3 u → ((u.cell? ⟨W.heap.size + 1, 0, none⟩ = some (.int .i64 d.id) ∧ u.cell? ⟨W.heap.size + 1, 1, none⟩ = some (.int .i64 d.room) ∧ u.cell? ⟨W.heap.size + 1, 2, none⟩ = some (.int .i64 d.home) ∧ u.cell? ⟨W.heap.size + 1, 3, none⟩ = some (.int .i64 d.win.fr) ∧ u.cell? ⟨W.heap.size + 1, 4, none⟩ = some (.int .i64 d.win.to) ∧ u.cell? ⟨W.heap.size + 1, 5, none⟩ = some (.bool d.retired)) ∧ u.cell? ⟨W.heap.size, 3, none⟩ = some (.slice x.os.a x.os.n x.os.c)) ∧
          (u.cell? ⟨sb, so + k * 2, none⟩ = some (.int .i64 s.ord) ∧ u.cell? ⟨sb, so + k * 2 + 1, none⟩ = some (.bool s.drop)) ∧
          (u.cell? ⟨vb, vo + k * 6, none⟩ = some (.int .i64 s.ord) ∧ u.cell? ⟨vb, vo + k * 6 + 1, none⟩ = some (.bool s.drop) ∧ u.cell? ⟨vb, vo + k * 6 + 2, none⟩ = some (.int .i64 (left + tt)) ∧ u.cell? ⟨vb, vo + k * 6 + 3, none⟩ = some (.int .i64 vst) ∧ u.cell? ⟨vb, vo + k * 6 + 4, none⟩ = some (.int .i64 (vst + sp.serv)) ∧ u.cell? ⟨vb, vo + k * 6 + 5, none⟩ = some (.int .i64 (loadOf o s load)))) := fun u hu => by
        have hL := L2.out.below hu
        obtain ⟨b1, o1, t1, e1, _, ht1, _, x0, x1⟩ := Stps.at_ hL.stps hlt
        injection e1 with e1
        injection e1 with e2 e3 _
        subst e2
        subst e3
        have h9 := HSK.out
        rw [ht1] at h9
        injection h9 with h9
        subst h9
        obtain ⟨b2, o2, t2, e4, _, ht2, _, r0, r1, r2, r3, r4, r5⟩ := Viss.at_ (Recs.keep V2.out hu) hlt
        injection e4 with e4
        injection e4 with e5 e6 _
        subst e5
        subst e6
        have h9 := HVK.out
        rw [ht2] at h9
        injection h9 with h9
        subst h9
        exact ⟨hL.cells, ⟨x0, x1⟩, ⟨r0, r1, r2, r3, r4, r5⟩⟩
      obtain ⟨⟨⟨d0, d1, d2, d3, d4, d5⟩, e0⟩, ⟨p0, p1⟩, ⟨q0, q1, q2, q3, q4, q5⟩⟩ := HALL.out w6 HB6.out
      go_upto_region 15 with fail
      go_cut [160] from 97 to 159 (fun bv wx => bv = .bool false ∧ Hid (Below w6.heap.size w6 wx))
      case first =>
        as_aux_lemma =>
        go_quiet (fail)
        go_wp2_with fail
        go_meet
        exact ⟨rfl, below_drewN (Below.refl _ _) _⟩
      case rest =>
      obtain ⟨rfl, HY⟩ := hcut
      obtain ⟨w7, rfl⟩ : ∃ w, w = wc := ⟨_, rfl⟩
      have S7 : Hid (SBox w7 g2 sp) := S6.out.below HY.out
      have O7 : Hid (OBox w7 g1 o) := O6.out.below HY.out
      have HB7 : Hid (Below w3.heap.size w3 w7) := HB6.out.trans (HY.out.mono HB6.out.size)
      have L7 := Lib.hid (L2.out.below HB7.out)
      clear y0 y1 y2 y3 p0 p1 q0 q1 q2 q3 q4 q5 d0 d1 d2 d3 d4 d5 e0 S6 O6 L6 HB6 HY
      obtain ⟨⟨⟨d0, d1, d2, d3, d4, d5⟩, e0⟩, ⟨p0, p1⟩, ⟨q0, q1, q2, q3, q4, q5⟩⟩ := HALL.out w7 HB7.out
      obtain ⟨y0, y1, y2, y3⟩ := S7.out.cells
      go_upto_region 17 with fail
      go_cut [209] from 161 to 208 (fun bv wx => bv = .bool false ∧ Hid (Below w7.heap.size w7 wx))
      case first =>
        as_aux_lemma =>
        by_cases h1 : vst = left + tt
        · have b1 : (vst != left + tt) = false := by simp [h1]
          clear h1
          go_quiet (fail)
          go_wp2_with fail
          go_meet
          exact ⟨rfl, below_drewN (Below.refl _ _) _⟩
        · have h2 : vst = sp.win.fr := by have := HF6.out; omega
          have b1 : (vst != left + tt) = true := by simp [h1]
          have b2 : (vst != sp.win.fr) = false := by simp [h2]
          clear h1 h2
          go_quiet (fail)
          go_wp2_with fail
          go_meet
          exact ⟨rfl, below_drewN (Below.refl _ _) _⟩
      case rest =>
      obtain ⟨rfl, HY⟩ := hcut
      obtain ⟨w8, rfl⟩ : ∃ w, w = wc := ⟨_, rfl⟩
      have S8 : Hid (SBox w8 g2 sp) := S7.out.below HY.out
      have O8 : Hid (OBox w8 g1 o) := O7.out.below HY.out
      have HB8 : Hid (Below w3.heap.size w3 w8) := HB7.out.trans (HY.out.mono HB7.out.size)
      have L8 := Lib.hid (L2.out.below HB8.out)
      clear y0 y1 y2 y3 p0 p1 q0 q1 q2 q3 q4 q5 d0 d1 d2 d3 d4 d5 e0 S7 O7 L7 HB7 HY
      obtain ⟨⟨⟨d0, d1, d2, d3, d4, d5⟩, e0⟩, ⟨p0, p1⟩, ⟨q0, q1, q2, q3, q4, q5⟩⟩ := HALL.out w8 HB8.out
      obtain ⟨y0, y1, y2, y3⟩ := S8.out.cells
      have a1 := O8.out.cells.2.1
      obtain ⟨lo2, hlo2⟩ : ∃ l, loadOf o s load = l := ⟨_, rfl⟩
      rw [hlo2] at q5 f10 HVN
      have HLO2 := Lib.hid hlo2
      clear hlo2
      go_upto_if 214 with fail
      go_cut [14] from 214 to 222 (fun lv wx => wx = w8 ∧ lv = .int .i64 lo2)
      case first =>
        have hl2 := HLO2.out
        unfold loadOf at hl2
        obtain ⟨sd, hsd⟩ : ∃ b, s.drop = b := ⟨_, rfl⟩
        rw [hsd] at p1 hl2 ⊢
        clear hsd
        cases sd with
        | true =>
          simp only [if_true] at hl2
          have hs5 : IntKind.i64.wrap lo2 = lo2 := IntWalk.i64_in _ (by omega)
          go_wp2_with fail
          go_meet
          exact ⟨rfl, by first | rfl | rw [hl2]⟩
        | false =>
          simp only [Bool.false_eq_true, if_false] at hl2
          have hs5 : IntKind.i64.wrap lo2 = lo2 := IntWalk.i64_in _ (by omega)
          go_wp2_with fail
          go_meet
          exact ⟨rfl, by first | rfl | rw [hl2]⟩
      case rest =>
      obtain ⟨rfl, rfl⟩ := hcut
      obtain ⟨w8, rfl⟩ : ∃ w, w = wc := ⟨_, rfl⟩
      have g10 : decide (lo2 < 0) = false := decide_eq_false (by omega)
      have g11 : decide (d.room < lo2) = false := decide_eq_false (by omega)
      have hs6 : IntKind.i64.wrap (cs + tt) = cs + tt := IntWalk.i64_in _ (by omega)
      go_wp2_with fail
      go_quiet (fail)
      go_wp2_with fail
      go_roundw
      case rel => exact ⟨k + 1, sp.place, vst + sp.serv, lo2, cs + tt, vs.take (k + 1), by omega, rfl, rfl, rfl, rfl, by go_num, HCN.out.symm, HVN, below_drewN HB8.out _⟩
      case measure => simp [intOf]; omega
    · as_aux_lemma =>
      have hkn' : k = n := by omega
      have hz : load = 0 := by
        have h1 := HV.out.run
        rw [hkn', List.take_of_length_le (by have := HLS.out; omega), HRUN.out] at h1
        injection h1 with h1
        injection h1 with h1 _
        have h2 := HLD.out
        rw [h1] at h2
        simp only at h2
        omega
      have hcs : costM m' os d.home stops = cs := by
        have h1 := HCS.out
        rw [hkn', List.take_of_length_le (by have := HLS.out; omega)] at h1
        exact h1.symm
      have HCC : Hid (cost (some m') d os stops = some cs) := by rw [HCO.out, hcs]; rfl
      have L9 := Lib.hid (L2.out.below HB.out)
      obtain ⟨⟨d0, d1, d2, d3, d4, d5⟩, e0⟩ := L9.out.cells
      subst hz
      clear hcs hkn'
      go_wp2_with fail
      refine (gcost_any W.heap.size _ (some m') d _ _ _ os A n c stops _ (by exact L9.out.map) (by exact L9.out.ords) (by exact L9.out.stps) hc x.os.h).mono ?_
      rintro e w9 ⟨rfl, hb⟩
      rw [HCC.out]
      have L10 := Lib.hid (L9.out.below hb)
      clear hb L9 d0 d1 d2 d3 d4 d5 e0
      simp only [optV]
      go_wp2_with fail
      refine (runs_any _).mono ?_
      rintro e wz ⟨rfl, hb⟩
      have LZ : Hid (Below W.heap.size W wz) := L10.out.old.trans (hb.mono L10.out.old.size)
      clear hb
      go_wp2_with fail
      go_ret
      exact ⟨rfl, LZ.out⟩

#print axioms routeVisits_walk
end Go.Proofs.Ytjkahookgoecpaa.Route
