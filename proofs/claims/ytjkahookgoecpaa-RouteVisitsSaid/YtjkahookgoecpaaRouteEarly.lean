/-
  RouteEarly walked.
-/
import Derived.Test.YtjkahookgoecpaaRouteListed
import Derived.Test.YtjkahookgoecpaaRouteBoxes
import Derived.Test.YtjkahookgoecpaaRouteMathsB
namespace Go.Proofs.Ytjkahookgoecpaa.Route
open Go.ChangeShapes Go.WideShapes Go.ChangeAt Go.RowKit Go.Proofs.Ytjkahookgoecpaa.Mem Go.Proofs.Ytjkahookgoecpaa.GeoMath Go.Proofs.Ytjkahookgoecpaa.FleetMath Go.Proofs.Ytjkahookgoecpaa.Rec Go.Proofs.Ytjkahookgoecpaa.Geo Go.Proofs.Ytjkahookgoecpaa.Span Go.Proofs.Ytjkahookgoecpaa.Deal Go.Proofs.Ytjkahookgoecpaa.Keep
set_option linter.unusedVariables false

section
variable {W u w w' : World} {q : Option Addr} {m : Option Mp} {x : Wd} {os : List FleetMath.Ord} {d : Drv} {A : Option Addr} {n : Nat} {stops : List Stp} {v v2 : List Value} {t t2 : TypeId}
theorem site_on (h : LR W q m x os d A n stops u) (s : Stp) (o : FleetMath.Ord) (ho : find os s.ord = some o) :
    Calls Try.prog 22 #[.slice x.os.a x.os.n x.os.c, stpV s] u fun en u' => en = .returned (.tuple #[ordV o, siteV (siteOf o s), .bool true]) ∧ Below u.heap.size u u' := by
  refine (site_any _ _ _ os s u h.ords).mono ?_
  rintro en u' ⟨rfl, hb⟩
  rw [ho]
  exact ⟨rfl, hb⟩
theorem gtime_on {m' : Mp} (h : LR W q (some m') x os d A n stops u) (a c t : Int) (ht : time m' a c = t) :
    Calls Try.prog 23 #[.pointer q, .int .i64 a, .int .i64 c] u fun en u' => en = .returned (.tuple #[.int .i64 t, .bool (isPlace m' a && isPlace m' c)]) ∧ Below u.heap.size u u' := by
  rcases h.map with ⟨_, h0⟩ | ⟨b, mn, ml, hq, hm, hat, _, hn, _⟩
  · cases h0
  · rw [hq]
    injection hm with hm
    subst hm
    refine (gtime_any _ b mn ml a c u hat hn).mono ?_
    rintro en u' ⟨rfl, dn, rfl⟩
    refine ⟨?_, below_drewN (Below.refl _ _) _⟩
    rw [timeV_time.1, ht]
    rfl
theorem LR.bounds {m' : Mp} (h : LR W q (some m') x os d A n stops u) (a b : Int) : 0 ≤ time m' a b ∧ time m' a b ≤ 1000000 := by
  rcases h.map with ⟨_, h0⟩ | ⟨b, mn, ml, hq, hm, hat, _, hn, hi⟩
  · cases h0
  · injection hm with hm
    subst hm
    exact time_bounds hi _ _
theorem below_alloc2 {B : Nat} {a b : World} (h : Below B a b) (hs : B ≤ b.heap.size) (o o2 : Obj) : Below B a ((b.alloc o).alloc o2) := (h.alloc hs o).alloc (by simp; omega) o2
theorem box_kept2a (hb : Below ((w.alloc (.cells v.toArray t)).alloc (.cells v2.toArray t2)).drew.heap.size ((w.alloc (.cells v.toArray t)).alloc (.cells v2.toArray t2)).drew w') : Blk w' w.heap.size t v := by
  have h : Blk (w.alloc (.cells v.toArray t)) w.heap.size t v := Blk.new w t v
  have h2 : Blk ((w.alloc (.cells v.toArray t)).alloc (.cells v2.toArray t2)).drew w.heap.size t v := h.below ((Below.refl _ _).alloc (Nat.le_refl _) _).drew h.lt
  exact h2.below hb h2.lt
theorem box_kept2b (hb : Below ((w.alloc (.cells v.toArray t)).alloc (.cells v2.toArray t2)).drew.heap.size ((w.alloc (.cells v.toArray t)).alloc (.cells v2.toArray t2)).drew w') : Blk w' (w.heap.size + 1) t2 v2 := by
  have h := Blk.new (w.alloc (.cells v.toArray t)) t2 v2
  rw [World.size_alloc] at h
  have h2 : Blk ((w.alloc (.cells v.toArray t)).alloc (.cells v2.toArray t2)).drew (w.heap.size + 1) t2 v2 := h
  exact h2.below hb h2.lt
end

set_option maxRecDepth 100000 in
set_option maxHeartbeats 4000000 in
theorem routeEarly_walk (x : Wd) (ts : List Int) (os : List FleetMath.Ord) (d : Drv) (A : Option Addr) (n c : Nat) (stops : List Stp) (A4 : Option Addr) (n4 c4 : Nat) (waits : List Int) (W : World) (hts : Ints W W.heap.size x.ts.a x.ts.n ts) (hos : Ords W W.heap.size x.os.a x.os.n os) (hst : Stps W W.heap.size A n stops) (hc : n ≤ c) (hwt : Ints W W.heap.size A4 n4 waits) :
    Calls Try.prog 6 #[wdV x, drvV d, .slice A n c, .slice A4 n4 c4] W fun e w' => e = .returned (.bool true) ∧ Below W.heap.size W w' := by
  have HWT := Lib.hid hwt
  have hnm4 := Reads.le hwt
  clear hwt
  have HTS := Lib.hid hts
  have HOS := Lib.hid hos
  have HST := Lib.hid hst
  have HLO := Lib.hid hos.length
  have hnm := Recs.le hst
  clear hts hos hst
  obtain ⟨m, hm⟩ : ∃ m, mapOf x.n ts = m := ⟨_, rfl⟩
  have HM := Lib.hid hm
  clear hm
  have HB0 : Hid (Below W.heap.size W ((W.alloc (.cells #[.int .i64 x.n, x.ts.v, x.ds.v, x.os.v, x.pl.v] 52)).alloc (.cells #[.int .i64 d.id, .int .i64 d.room, .int .i64 d.home, .int .i64 d.win.fr, .int .i64 d.win.to, .bool d.retired] 33))) := ((Below.refl _ _).alloc (Nat.le_refl _) _).alloc (by simp) _
  have HW0 : Hid (WBox ((W.alloc (.cells #[.int .i64 x.n, x.ts.v, x.ds.v, x.os.v, x.pl.v] 52)).alloc (.cells #[.int .i64 d.id, .int .i64 d.room, .int .i64 d.home, .int .i64 d.win.fr, .int .i64 d.win.to, .bool d.retired] 33)) W.heap.size x) := (WBox.new W x).below ((Below.refl _ _).alloc (Nat.le_refl _) _)
  have HD0 : Hid (DBox ((W.alloc (.cells #[.int .i64 x.n, x.ts.v, x.ds.v, x.os.v, x.pl.v] 52)).alloc (.cells #[.int .i64 d.id, .int .i64 d.room, .int .i64 d.home, .int .i64 d.win.fr, .int .i64 d.win.to, .bool d.retired] 33)) (W.heap.size + 1) d) := by
    have := Blk.new (W.alloc (.cells #[.int .i64 x.n, x.ts.v, x.ds.v, x.os.v, x.pl.v] 52)) 33 [.int .i64 d.id, .int .i64 d.room, .int .i64 d.home, .int .i64 d.win.fr, .int .i64 d.win.to, .bool d.retired]
    rw [World.size_alloc] at this
    exact this
  obtain ⟨⟨vs, fk, fe⟩, hdr⟩ : ∃ r, drive m d os stops = r := ⟨_, rfl⟩
  have HDR := Lib.hid hdr
  clear hdr
  go_enter Try.func6, Try.ntmps6
  go_wp2_with fail
  refine (kmaps_any x ts _ (by exact Reads.more (Reads.keep HTS.out HB0.out) HB0.out.size)).mono ?_
  rintro e w1 ⟨hb1, q, r, rfl, hq, _⟩
  have L1 : Hid (LR W q m x os d A n stops w1) := by
    have HM' := HM.out
    rw [HM'] at hq
    exact ⟨HB0.out.trans (hb1.mono HB0.out.size), hq.lower HB0.out.size, HW0.out.below hb1, HD0.out.below hb1, HOS.out, HST.out⟩
  clear hb1 hq HB0 HW0 HD0 HTS HOS HST HM
  obtain ⟨⟨d0, d1, d2, d3, d4, d5⟩, e0⟩ := L1.out.cells
  go_wp2_with fail
  refine (LR.drive_of L1.out L1.out.ords x.os.h hc vs fk fe HDR.out).mono ?_
  rintro e w2 ⟨B, c5, rfl, hb, hvs⟩
  have L2 := Lib.hid ((L1.out.below hb).alloc (.cells #[.int .i64 fk, .int .i64 fe] 39))
  have F2 : Hid (FBox (w2.alloc (.cells #[.int .i64 fk, .int .i64 fe] 39)) w2.heap.size fk fe) := Blk.new w2 _ _
  have V2 : Hid (Viss (w2.alloc (.cells #[.int .i64 fk, .int .i64 fe] 39)) (w2.alloc (.cells #[.int .i64 fk, .int .i64 fe] 39)).heap.size B vs.length vs) := Recs.more (Recs.alloc hvs (Nat.le_refl _) _) (by simp)
  clear hb hvs L1 d0 d1 d2 d3 d4 d5 e0
  obtain ⟨gf, hgf⟩ : ∃ g, w2.heap.size = g := ⟨_, rfl⟩
  obtain ⟨w3, hw3⟩ : ∃ w, w2.alloc (.cells #[.int .i64 fk, .int .i64 fe] 39) = w := ⟨_, rfl⟩
  go_upto_region 5 with fail
  rw [hgf, hw3] at F2
  rw [hw3] at L2 V2
  clear hgf hw3
  have z1 := F2.out.cells.2
  by_cases he : fe = 0 ∨ fe = 15
  case neg =>
    have hz : vs = [] := by
      have := drive_empty (m := m) (d := d) (os := os) (stops := stops) (by rw [HDR.out]; simp only; omega)
      rw [HDR.out] at this
      exact this
    subst hz
    have e1 : (fe != 0) = true := by simp; omega
    have e2 : (fe != 15) = true := by simp; omega
    clear he
    simp only [List.length_nil]
    go_wp2_with fail
    refine (runs_any _).mono ?_
    rintro e w4 ⟨rfl, hb⟩
    have LZ : Hid (Below W.heap.size W w4) := L2.out.old.trans (hb.mono L2.out.old.size)
    clear hb
    go_wp2_with fail
    go_ret
    exact ⟨rfl, LZ.out⟩
  have HFE := Lib.hid he
  have HLS := Lib.hid L2.out.stops0.length
  -- how far the drive goes, and what is known of it
  obtain ⟨m', J, stF, us, hmm, hkn, hdv, hJn, hrun, hJ0, hJ15⟩ : ∃ m' J stF us, m = some m' ∧ known m os = true ∧ drvE m d = 0 ∧ J ≤ n ∧ FleetMath.run m' d os [] (st0 d) (stops.take J) = .ok (stF, us) ∧ (fe = 0 → J = n ∧ us = vs) ∧ (fe = 15 → J = fk ∧ J < n ∧ ∃ s o, stops[J]? = some s ∧ find os s.ord = some o ∧ FleetMath.served m' stF.at_ stF.left (siteOf o s) d.win.to = none) := by
    rcases he with rfl | rfl
    · obtain ⟨m', st, h1, h2, h3, h4, h5⟩ := drive_fine (by rw [HDR.out] : (drive m d os stops).2.2 = 0)
      rw [HDR.out] at h2
      refine ⟨m', n, st, vs, h1, h4, h5, Nat.le_refl _, ?_, fun _ => ⟨rfl, rfl⟩, fun h => by omega⟩
      rw [List.take_of_length_le (by have := HLS.out; omega)]
      exact h2
    · obtain ⟨m', st, us, s, o, h1, h2, h3, h4, h5, h6, h7⟩ := drive_lateAt HDR.out
      have hlt := (List.getElem?_eq_some_iff.1 h5).1
      have := HLS.out
      exact ⟨m', fk, st, us, h1, h2, h3, by omega, h4, fun h => by omega, fun _ => ⟨rfl, by omega, s, o, h5, h6, h7⟩⟩
  subst hmm
  obtain ⟨_, hm2, hdok⟩ := drvE_ok.1 hdv
  injection hm2 with hm2
  subst hm2
  have HKN := Lib.hid hkn
  have HDV := Lib.hid hdok
  have HRUN := Lib.hid hrun
  have HJ0 := Lib.hid hJ0
  have HJ15 := Lib.hid hJ15
  have HTB := Lib.hid L2.out.bounds
  have hwin := right_iff.1 hdok.win
  clear hkn hdv hdok hrun hJ0 hJ15 he
  go_cut [47] (fun bv wx => bv = .bool false ∧ wx = w3)
  case first =>
    have hfe := HFE.out
    rcases hfe with h | h
    · have z2 : w3.cell? ⟨gf, 1, none⟩ = some (.int .i64 0) := by rw [← h]; exact z1
      clear z1
      go_wp2_with fail
      go_meet
      exact ⟨rfl, rfl⟩
    · have z2 : w3.cell? ⟨gf, 1, none⟩ = some (.int .i64 15) := by rw [← h]; exact z1
      clear z1
      go_wp2_with fail
      go_meet
      exact ⟨rfl, rfl⟩
  case rest =>
  obtain ⟨rfl, rfl⟩ := hcut
  obtain ⟨w3, rfl⟩ : ∃ w, w = wc := ⟨_, rfl⟩
  obtain ⟨⟨d0, d1, d2, d3, d4, d5⟩, e0⟩ := L2.out.cells
  go_wp2_with fail
  go_quiet (fail)
  go_wp2_with fail
  go_loopw [14, 15, 16] (fun av lv kv wr => ∃ (k : Nat) (st : St) (us' : List Vis) (left : Int), k ≤ n ∧ k ≤ J ∧ av = .int .i64 st.at_ ∧ lv = .int .i64 left ∧ kv = .int .i64 k ∧ Hid (st.left ≤ left) ∧ 0 ≤ left ∧ left ≤ 1000000 ∧ Hid (Vup m' d os stops k st us') ∧ Hid (Below w3.heap.size w3 wr)) (fun _ _ kv _ => n - (intOf kv).toNat)
  case atStart => exact ⟨0, st0 d, [], d.win.fr, Nat.zero_le _, Nat.zero_le _, rfl, rfl, rfl, (Int.le_refl _ : d.win.fr ≤ d.win.fr), by omega, by omega, Vup.start HDV.out, below_drewN (Below.refl _ _) _⟩
  case round =>
    clear d0 d1 d2 d3 d4 d5 e0 z1
    obtain ⟨k, st, us', left, hkn, hkJ, rfl, rfl, rfl, HLE, hl0, hl1, HV, HB⟩ := hrel
    obtain ⟨at_, hat⟩ : ∃ a, st.at_ = a := ⟨_, rfl⟩
    rw [hat]
    by_cases hlt : k < n
    · obtain ⟨sb, so, s, rfl, _, hs, _, p0, p1⟩ := Stps.at_ (L2.out.below HB.out).stps hlt
      have HSK := Lib.hid hs
      clear hs p0 p1
      obtain ⟨o, hfo, hcase⟩ : ∃ o, find os s.ord = some o ∧ ((∃ v, us[k]? = some v ∧ k < J ∧ Vis1 m' d os st s o v ∧ Vup m' d os stops (k + 1) ⟨(siteOf o s).place, v.leave, v.load⟩ (us.take (k + 1))) ∨ (fe = 15 ∧ k = J ∧ FleetMath.served m' st.at_ st.left (siteOf o s) d.win.to = none)) := by
        by_cases hj : k < J
        · obtain ⟨o, v, h1, h2, h3⟩ := HV.out.to HRUN.out hj HKN.out HDV.out HSK.out
          exact ⟨o, h2.find, .inl ⟨v, h1, hj, h2, h3⟩⟩
        · have hkJ' : k = J := by omega
          rcases HFE.out with hf | hf
          · have := (HJ0.out hf).1
            omega
          · obtain ⟨_, _, s', o, h1, h2, h3⟩ := HJ15.out hf
            have e1 := HSK.out
            rw [hkJ', h1] at e1
            injection e1 with e1
            subst e1
            have e2 := HV.out.run
            have e3 := HRUN.out
            rw [hkJ', e3] at e2
            injection e2 with e2
            injection e2 with e2 _
            exact ⟨o, h2, .inr ⟨hf, hkJ', by rw [← e2]; exact h3⟩⟩
      have HFO := Lib.hid hfo
      have HCASE := Lib.hid hcase
      have HOK := Lib.hid (known_ok HKN.out o (find_some hfo).1)
      clear hfo hcase
      have hki : (k : Int) < (n : Int) := by omega
      have HC : Hid (∀ u, Below wr.heap.size wr u → (u.cell? ⟨W.heap.size, 3, none⟩ = some (.slice x.os.a x.os.n x.os.c) ∧ u.cell? ⟨sb, so + k * 2, none⟩ = some (.int .i64 s.ord) ∧ u.cell? ⟨sb, so + k * 2 + 1, none⟩ = some (.bool s.drop)) ∧ Below wr.heap.size wr u) := fun u hu => by
        have hL := L2.out.below (HB.out.trans (hu.mono HB.out.size))
        obtain ⟨b', off', s', e0, _, hs', _, x0, x1⟩ := Stps.at_ hL.stps hlt
        injection e0 with e0
        injection e0 with e2 e3 _
        subst e2
        subst e3
        have h3 := HSK.out
        rw [hs'] at h3
        injection h3 with h3
        subst h3
        exact ⟨⟨hL.cells.2, x0, x1⟩, hu⟩
      have HL : Hid (∀ u, Below wr.heap.size wr u → LR W q (some m') x os d (some ⟨sb, so, none⟩) n stops u) := fun u hu => L2.out.below (HB.out.trans (hu.mono HB.out.size))
      have BA : Hid (Below wr.heap.size wr wr.drew) := (Below.refl _ _).drew
      have BB : Hid (Below wr.heap.size wr (wr.alloc (.cells #[.int .i64 0, .int .i64 0, .int .i64 0, .int .i64 0, .int .i64 0, .int .i64 0, .int .i64 0, .int .i64 0, .int .i64 0, .int .i64 0] 31)).drew) := ((Below.refl _ _).alloc (Nat.le_refl _) _).drew
      have BC : Hid (Below wr.heap.size wr (wr.alloc (.cells #[.int .i64 0, .int .i64 0, .int .i64 0, .int .i64 0] 29)).drew) := ((Below.refl _ _).alloc (Nat.le_refl _) _).drew
      have BD : Hid (Below wr.heap.size wr ((wr.alloc (.cells #[.int .i64 0, .int .i64 0, .int .i64 0, .int .i64 0, .int .i64 0, .int .i64 0, .int .i64 0, .int .i64 0, .int .i64 0, .int .i64 0] 31)).alloc (.cells #[.int .i64 0, .int .i64 0, .int .i64 0, .int .i64 0] 29)).drew) := (((Below.refl _ _).alloc (Nat.le_refl _) _).alloc (by simp) _).drew
      have BE : Hid (Below wr.heap.size wr ((wr.alloc (.cells #[.int .i64 0, .int .i64 0, .int .i64 0, .int .i64 0] 29)).alloc (.cells #[.int .i64 0, .int .i64 0, .int .i64 0, .int .i64 0, .int .i64 0, .int .i64 0, .int .i64 0, .int .i64 0, .int .i64 0, .int .i64 0] 31)).drew) := (((Below.refl _ _).alloc (Nat.le_refl _) _).alloc (by simp) _).drew
      go_upto_region 11 with fail
      go_cut [17, 18, 19] (fun v17 v18 v19 wx => ∃ g1 g2, v17 = .pointer (some ⟨g1, 0, none⟩) ∧ v18 = .pointer (some ⟨g2, 0, none⟩) ∧ v19 = .bool true ∧ Hid (Bxs wr g1 g2 o (siteOf o s) wx))
      case first =>
        go_region_held3 (fun u => (u.cell? ⟨W.heap.size, 3, none⟩ = some (.slice x.os.a x.os.n x.os.c) ∧ u.cell? ⟨sb, so + k * 2, none⟩ = some (.int .i64 s.ord) ∧ u.cell? ⟨sb, so + k * 2 + 1, none⟩ = some (.bool s.drop)) ∧ Below wr.heap.size wr u)
          (first
            | with_reducible exact HC.out _ BA.out
            | with_reducible exact HC.out _ BB.out
            | with_reducible exact HC.out _ BC.out
            | with_reducible exact HC.out _ BD.out
            | with_reducible exact HC.out _ BE.out
            | with_reducible exact HC.out _ hb8
            | with_reducible exact HC.out _ (Below.alloc hb8 hsz _)
            | with_reducible exact HC.out _ (below_alloc2 hb8 hsz _ _)
            | with_reducible exact HC.out _ (b10 hb8 (Nat.le_refl _))
            | with_reducible exact HC.out _ (b10 hb8 (Nat.le_succ _))
            | with_reducible exact HC.out _ (b4 hb8 (Nat.le_refl _))
            | with_reducible exact HC.out _ (b10a hb8 (Nat.le_refl _) _)
            | with_reducible exact HC.out _ (b4a hb8 (Nat.le_refl _) _)
            | with_reducible exact HC.out _ (b104 hb8 (Nat.le_refl _) (Nat.le_succ _))
            | with_reducible exact HC.out _ (b104 hb8 (Nat.le_succ _) (Nat.le_refl _)))
          (first
            | (go_at_call 22; (with_reducible refine at_calls wr.drew ?_); (refine (site_on (HL.out _ BA.out) s o HFO.out).mono ?_); rintro e w8 ⟨rfl, hby⟩; have hb8 : Below wr.heap.size wr w8 := BA.out.trans (hby.mono BA.out.size); have hsz := hb8.size; skip)
            | (go_at_call 22; (with_reducible refine at_calls (wr.alloc (.cells #[.int .i64 0, .int .i64 0, .int .i64 0, .int .i64 0, .int .i64 0, .int .i64 0, .int .i64 0, .int .i64 0, .int .i64 0, .int .i64 0] 31)).drew ?_); (refine (site_on (HL.out _ BB.out) s o HFO.out).mono ?_); rintro e w8 ⟨rfl, hby⟩; have hb8 : Below wr.heap.size wr w8 := BB.out.trans (hby.mono BB.out.size); have hsz := hb8.size; have XO := Lib.hid (box_kept hby); have hltXO := XO.out.lt; have rXO0 := XO.out.cell (i := 0) rfl; have sXO0 := XO.out.free 0; have rXO1 := XO.out.cell (i := 1) rfl; have sXO1 := XO.out.free 1; have rXO2 := XO.out.cell (i := 2) rfl; have sXO2 := XO.out.free 2; have rXO3 := XO.out.cell (i := 3) rfl; have sXO3 := XO.out.free 3; have rXO4 := XO.out.cell (i := 4) rfl; have sXO4 := XO.out.free 4; have rXO5 := XO.out.cell (i := 5) rfl; have sXO5 := XO.out.free 5; have rXO6 := XO.out.cell (i := 6) rfl; have sXO6 := XO.out.free 6; have rXO7 := XO.out.cell (i := 7) rfl; have sXO7 := XO.out.free 7; have rXO8 := XO.out.cell (i := 8) rfl; have sXO8 := XO.out.free 8; have rXO9 := XO.out.cell (i := 9) rfl; have sXO9 := XO.out.free 9)
            | (go_at_call 22; (with_reducible refine at_calls (wr.alloc (.cells #[.int .i64 0, .int .i64 0, .int .i64 0, .int .i64 0] 29)).drew ?_); (refine (site_on (HL.out _ BC.out) s o HFO.out).mono ?_); rintro e w8 ⟨rfl, hby⟩; have hb8 : Below wr.heap.size wr w8 := BC.out.trans (hby.mono BC.out.size); have hsz := hb8.size; have XS := Lib.hid (box_kept hby); have hltXS := XS.out.lt; have rXS0 := XS.out.cell (i := 0) rfl; have sXS0 := XS.out.free 0; have rXS1 := XS.out.cell (i := 1) rfl; have sXS1 := XS.out.free 1; have rXS2 := XS.out.cell (i := 2) rfl; have sXS2 := XS.out.free 2; have rXS3 := XS.out.cell (i := 3) rfl; have sXS3 := XS.out.free 3)
            | (go_at_call 22; (with_reducible refine at_calls ((wr.alloc (.cells #[.int .i64 0, .int .i64 0, .int .i64 0, .int .i64 0, .int .i64 0, .int .i64 0, .int .i64 0, .int .i64 0, .int .i64 0, .int .i64 0] 31)).alloc (.cells #[.int .i64 0, .int .i64 0, .int .i64 0, .int .i64 0] 29)).drew ?_); (refine (site_on (HL.out _ BD.out) s o HFO.out).mono ?_); rintro e w8 ⟨rfl, hby⟩; have hb8 : Below wr.heap.size wr w8 := BD.out.trans (hby.mono BD.out.size); have hsz := hb8.size; have XO := Lib.hid (box_kept2a hby); have XS := Lib.hid (box_kept2b hby); have hltXO := XO.out.lt; have rXO0 := XO.out.cell (i := 0) rfl; have sXO0 := XO.out.free 0; have rXO1 := XO.out.cell (i := 1) rfl; have sXO1 := XO.out.free 1; have rXO2 := XO.out.cell (i := 2) rfl; have sXO2 := XO.out.free 2; have rXO3 := XO.out.cell (i := 3) rfl; have sXO3 := XO.out.free 3; have rXO4 := XO.out.cell (i := 4) rfl; have sXO4 := XO.out.free 4; have rXO5 := XO.out.cell (i := 5) rfl; have sXO5 := XO.out.free 5; have rXO6 := XO.out.cell (i := 6) rfl; have sXO6 := XO.out.free 6; have rXO7 := XO.out.cell (i := 7) rfl; have sXO7 := XO.out.free 7; have rXO8 := XO.out.cell (i := 8) rfl; have sXO8 := XO.out.free 8; have rXO9 := XO.out.cell (i := 9) rfl; have sXO9 := XO.out.free 9; have hltXS := XS.out.lt; have rXS0 := XS.out.cell (i := 0) rfl; have sXS0 := XS.out.free 0; have rXS1 := XS.out.cell (i := 1) rfl; have sXS1 := XS.out.free 1; have rXS2 := XS.out.cell (i := 2) rfl; have sXS2 := XS.out.free 2; have rXS3 := XS.out.cell (i := 3) rfl; have sXS3 := XS.out.free 3)
            | (go_at_call 22; (with_reducible refine at_calls ((wr.alloc (.cells #[.int .i64 0, .int .i64 0, .int .i64 0, .int .i64 0] 29)).alloc (.cells #[.int .i64 0, .int .i64 0, .int .i64 0, .int .i64 0, .int .i64 0, .int .i64 0, .int .i64 0, .int .i64 0, .int .i64 0, .int .i64 0] 31)).drew ?_); (refine (site_on (HL.out _ BE.out) s o HFO.out).mono ?_); rintro e w8 ⟨rfl, hby⟩; have hb8 : Below wr.heap.size wr w8 := BE.out.trans (hby.mono BE.out.size); have hsz := hb8.size; have XS := Lib.hid (box_kept2a hby); have XO := Lib.hid (box_kept2b hby); have hltXO := XO.out.lt; have rXO0 := XO.out.cell (i := 0) rfl; have sXO0 := XO.out.free 0; have rXO1 := XO.out.cell (i := 1) rfl; have sXO1 := XO.out.free 1; have rXO2 := XO.out.cell (i := 2) rfl; have sXO2 := XO.out.free 2; have rXO3 := XO.out.cell (i := 3) rfl; have sXO3 := XO.out.free 3; have rXO4 := XO.out.cell (i := 4) rfl; have sXO4 := XO.out.free 4; have rXO5 := XO.out.cell (i := 5) rfl; have sXO5 := XO.out.free 5; have rXO6 := XO.out.cell (i := 6) rfl; have sXO6 := XO.out.free 6; have rXO7 := XO.out.cell (i := 7) rfl; have sXO7 := XO.out.free 7; have rXO8 := XO.out.cell (i := 8) rfl; have sXO8 := XO.out.free 8; have rXO9 := XO.out.cell (i := 9) rfl; have sXO9 := XO.out.free 9; have hltXS := XS.out.lt; have rXS0 := XS.out.cell (i := 0) rfl; have sXS0 := XS.out.free 0; have rXS1 := XS.out.cell (i := 1) rfl; have sXS1 := XS.out.free 1; have rXS2 := XS.out.cell (i := 2) rfl; have sXS2 := XS.out.free 2; have rXS3 := XS.out.cell (i := 3) rfl; have sXS3 := XS.out.free 3))
        all_goals
          go_wp2_with fail
          go_meet
          first
            | with_reducible exact ⟨_, _, rfl, rfl, rfl, Lib.hid (fin1 hb8)⟩
            | with_reducible exact ⟨_, _, rfl, rfl, rfl, Lib.hid (fin2 hb8)⟩
            | with_reducible exact ⟨_, _, rfl, rfl, rfl, Lib.hid (fin3 hb8 XO.out (Nat.le_refl _))⟩
            | with_reducible exact ⟨_, _, rfl, rfl, rfl, Lib.hid (fin4 hb8 XS.out (Nat.le_refl _))⟩
            | with_reducible exact ⟨_, _, rfl, rfl, rfl, Lib.hid (fin5 hb8 XO.out XS.out (Nat.le_refl _) (Nat.le_succ _) (by omega))⟩
            | with_reducible exact ⟨_, _, rfl, rfl, rfl, Lib.hid (fin5 hb8 XO.out XS.out (Nat.le_succ _) (Nat.le_refl _) (by omega))⟩
      case rest =>
      clear HC
      obtain ⟨g1, g2, rfl, rfl, rfl, HG⟩ := hcut
      obtain ⟨w5, rfl⟩ : ∃ w, w = wc := ⟨_, rfl⟩
      have HB5 : Hid (Below w3.heap.size w3 w5) := HB.out.trans (HG.out.1.mono HB.out.size)
      obtain ⟨sp, hsp⟩ : ∃ t, siteOf o s = t := ⟨_, rfl⟩
      have hso := siteOf_ok HOK.out s
      rw [hsp] at HG hso
      have S5 : Hid (SBox w5 g2 sp) := HG.out.2.2
      have hw := right_iff.1 hso.2.1
      have hsv := hso.2.2
      obtain ⟨tt, htt⟩ : ∃ t, time m' at_ sp.place = t := ⟨_, rfl⟩
      have htb := HTB.out at_ sp.place
      rw [htt] at htb
      have HTT := Lib.hid htt
      have HSP := Lib.hid hsp
      have HAT := Lib.hid hat
      clear hsp htt hso HL BA BB BC BD BE HG
      have L5 := Lib.hid (L2.out.below HB5.out)
      obtain ⟨y0, y1, y2, y3⟩ := S5.out.cells
      go_wp2_with fail
      refine (gtime_on L5.out at_ sp.place tt HTT.out).mono ?_
      rintro e w6 ⟨rfl, hb⟩
      have HB6 : Hid (Below w3.heap.size w3 w6) := HB5.out.trans (hb.mono HB5.out.size)
      have S6 := Lib.hid (S5.out.below hb)
      have L6 := Lib.hid (L2.out.below HB6.out)
      have F6 := Lib.hid (F2.out.below HB6.out)
      clear hb L5 S5 HB5 y0 y1 y2 y3
      obtain ⟨y0, y1, y2, y3⟩ := S6.out.cells
      have hs1 : IntKind.i64.wrap (left + tt) = left + tt := IntWalk.i64_in _ (by omega)
      go_upto_if 99 with fail
      go_cut [22] (fun bv wx => wx = w6 ∧ ∃ b0 : Int, bv = .int .i64 b0 ∧ Hid (left + tt ≤ b0 ∧ sp.win.fr ≤ b0) ∧ 0 ≤ b0 ∧ b0 ≤ 3000000)
      case first =>
        by_cases hb0 : left + tt < sp.win.fr
        · go_wp2_with fail
          go_meet
          exact ⟨rfl, _, rfl, ⟨by omega, by omega⟩, by omega, by omega⟩
        · go_wp2_with fail
          go_meet
          exact ⟨rfl, _, rfl, ⟨by omega, by omega⟩, by omega, by omega⟩
      case rest =>
      obtain ⟨rfl, b0, rfl, HB0, hb00, hb01⟩ := hcut
      obtain ⟨w6, rfl⟩ : ∃ w, w = wc := ⟨_, rfl⟩
      go_upto_region 18 with fail
      go_cut [120] (fun bv wx => wx = w6 ∧ ∃ tb : Bool, bv = .bool tb ∧ Hid (tb = true → k < n4 ∧ ∃ wt, waits[k]? = some wt ∧ 0 < wt ∧ wt ≤ 1000))
      case first =>
        by_cases hk4 : k < n4
        · obtain ⟨wb, wo, wt, rfl, hwt, hwc, _⟩ := Ints.at_ (Reads.keep HWT.out L6.out.old) hk4
          have HWK := Lib.hid hwt
          clear hwt
          have hki4 : (k : Int) < (n4 : Int) := by omega
          by_cases h1 : 0 < wt
          · by_cases h2 : wt ≤ 1000
            · go_wp2_with fail
              go_meet
              exact ⟨rfl, _, rfl, fun _ => ⟨hk4, wt, HWK.out, h1, h2⟩⟩
            · go_wp2_with fail
              go_meet
              exact ⟨rfl, false, by first | rfl | simp only [decide_false] | simp [h2], fun h => by cases h⟩
          · go_wp2_with fail
            go_meet
            exact ⟨rfl, false, by first | rfl | simp only [decide_false] | simp [h1], fun h => by cases h⟩
        · have hki4 : ¬ (k : Int) < (n4 : Int) := by omega
          go_wp2_with fail
          go_meet
          exact ⟨rfl, false, by first | rfl | simp only [decide_false] | simp [hk4], fun h => by cases h⟩
      case rest =>
      obtain ⟨rfl, tb, rfl, HTW⟩ := hcut
      obtain ⟨w6, rfl⟩ : ∃ w, w = wc := ⟨_, rfl⟩
      go_upto_if 120 with fail
      go_cut [22] (fun bv wx => wx = w6 ∧ ∃ b1 : Int, bv = .int .i64 b1 ∧ Hid (b0 ≤ b1) ∧ b1 ≤ 3001000 ∧ 0 ≤ b1)
      case first =>
        cases tb with
        | true =>
          obtain ⟨hk4, wt, hwk, h1, h2⟩ := HTW.out rfl
          obtain ⟨wb, wo, wt', rfl, hwt, hwc, _⟩ := Ints.at_ (Reads.keep HWT.out L6.out.old) hk4
          rw [hwk] at hwt
          injection hwt with hwt
          subst hwt
          clear hwk
          have hki4 : (k : Int) < (n4 : Int) := by omega
          have hs2 : IntKind.i64.wrap (b0 + wt) = b0 + wt := IntWalk.i64_in _ (by omega)
          go_wp2_with fail
          go_meet
          exact ⟨rfl, _, rfl, (by show b0 ≤ b0 + wt; omega), by omega, by omega⟩
        | false =>
          go_wp2_with fail
          go_meet
          exact ⟨rfl, _, rfl, Int.le_refl _, by omega, by omega⟩
      case rest =>
      obtain ⟨rfl, b1, rfl, HB1, hb1a, hb1b⟩ := hcut
      obtain ⟨w6, rfl⟩ : ∃ w, w = wc := ⟨_, rfl⟩
      clear HTW
      obtain ⟨⟨d0, d1, d2, d3, d4, d5⟩, e0⟩ := L6.out.cells
      have hs3 : IntKind.i64.wrap (b1 + sp.serv) = b1 + sp.serv := IntWalk.i64_in _ (by omega)
      by_cases hto : sp.win.to < b1
      · go_wp2_with fail
        refine (runs_any _).mono ?_
        rintro e w7 ⟨rfl, hb⟩
        have LZ : Hid (Below W.heap.size W w7) := L6.out.old.trans (hb.mono L6.out.old.size)
        clear hb
        go_wp2_with fail
        go_ret
        exact ⟨rfl, LZ.out⟩
      by_cases htil : d.win.to < b1 + sp.serv
      · go_wp2_with fail
        refine (runs_any _).mono ?_
        rintro e w7 ⟨rfl, hb⟩
        have LZ : Hid (Below W.heap.size W w7) := L6.out.old.trans (hb.mono L6.out.old.size)
        clear hb
        go_wp2_with fail
        go_ret
        exact ⟨rfl, LZ.out⟩
      rcases HCASE.out with ⟨v, hv, hj, hv1, hvn⟩ | ⟨hf, hkj, hnone⟩
      case inr =>
        exfalso
        have h1 := HB0.out
        have h2 := HB1.out
        obtain ⟨c', v', h3, _⟩ := HV.out.early HKN.out HDV.out HSK.out HFO.out (b := b1) HLE.out (by rw [HSP.out, HAT.out, HTT.out]; omega) (by rw [HSP.out]; omega) (by rw [HSP.out]; omega) (by rw [HSP.out]; omega)
        rw [hnone] at h3
        cases h3
      case inl =>
      have hstart : v.start ≤ b1 := by
        have h1 := hv1.soon
        have h2 := hv1.arrive
        have h3 := hv1.fr
        have h4 := HB0.out
        have h5 := HB1.out
        have h6 := HLE.out
        rw [HSP.out] at h1 h2 h3
        rw [HAT.out, HTT.out] at h2
        omega
      have hleave : v.leave ≤ b1 + sp.serv := by
        have h1 := hv1.leave
        rw [HSP.out] at h1
        omega
      have HVN := Lib.hid hvn
      rw [HSP.out] at HVN
      have HVK := Lib.hid hv
      have hjk : k < J := hj
      have HLV := Lib.hid hleave
      clear hv1 hv hvn hleave HCASE
      obtain ⟨z0, z1⟩ := F6.out.cells
      rcases HFE.out with hf | hf
      · have hus : us = vs := (HJ0.out hf).2
        have hvv : vs[k]? = some v := by rw [← hus]; exact HVK.out
        subst hf
        have hkv : k < vs.length := (List.getElem?_eq_some_iff.1 hvv).1
        obtain ⟨vb, vo, v', rfl, _, hv', _, _, _, _, q3, _⟩ := Viss.at_ (Recs.keep V2.out HB6.out) hkv
        rw [hvv] at hv'
        injection hv' with hv'
        subst hv'
        clear hvv hus
        have hkv2 : (k : Int) < (vs.length : Int) := by omega
        have g1 : decide ((vs.length : Int) ≤ (k : Int)) = false := decide_eq_false (by omega)
        have g2' : decide (b1 < v.start) = false := decide_eq_false (by omega)
        go_wp2_with fail
        go_quiet (fail)
        go_wp2_with fail
        go_roundw
        case rel => exact ⟨k + 1, ⟨sp.place, v.leave, v.load⟩, us.take (k + 1), b1 + sp.serv, by omega, by omega, rfl, rfl, by go_num, HLV, by omega, by omega, HVN, below_drewN HB6.out _⟩
        case measure => simp [intOf]; omega
      · have hfk : J = fk := (HJ15.out hf).1
        subst hf
        have g1 : decide ((fk : Int) ≤ (k : Int)) = false := decide_eq_false (by omega)
        go_wp2_with fail
        go_quiet (fail)
        go_wp2_with fail
        go_roundw
        case rel => exact ⟨k + 1, ⟨sp.place, v.leave, v.load⟩, us.take (k + 1), b1 + sp.serv, by omega, by omega, rfl, rfl, by go_num, HLV, by omega, by omega, HVN, below_drewN HB6.out _⟩
        case measure => simp [intOf]; omega
    · have hJ : J = n := by omega
      have hf : fe = 0 := by
        rcases HFE.out with hf | hf
        · exact hf
        · have := (HJ15.out hf).2.1
          omega
      have F6 := Lib.hid (F2.out.below HB.out)
      obtain ⟨z0, z1⟩ := F6.out.cells
      have L6 := Lib.hid (L2.out.below HB.out)
      rw [hf] at z1
      clear hf hJ
      go_wp2_with fail
      refine (runs_any _).mono ?_
      rintro e w7 ⟨rfl, hb⟩
      have LZ : Hid (Below W.heap.size W w7) := L6.out.old.trans (hb.mono L6.out.old.size)
      clear hb
      go_wp2_with fail
      go_ret
      exact ⟨rfl, LZ.out⟩

#print axioms routeEarly_walk

end Go.Proofs.Ytjkahookgoecpaa.Route
