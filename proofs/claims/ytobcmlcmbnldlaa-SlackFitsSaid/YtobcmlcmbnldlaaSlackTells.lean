/-
  SlackTells walked.
-/
import Derived.Test.YtobcmlcmbnldlaaSlackPuts
import Derived.Deep.RegionHeld3
namespace Go.Proofs.Ytobcmlcmbnldlaa.Slack
open Go.ChangeShapes Go.WideShapes Go.ChangeAt Go.RowKit Go.Proofs.Ytobcmlcmbnldlaa.Mem Go.Proofs.Ytobcmlcmbnldlaa.GeoMath Go.Proofs.Ytobcmlcmbnldlaa.FleetMath Go.Proofs.Ytobcmlcmbnldlaa.Rec Go.Proofs.Ytobcmlcmbnldlaa.Geo Go.Proofs.Ytobcmlcmbnldlaa.Span Go.Proofs.Ytobcmlcmbnldlaa.Deal Go.Proofs.Ytobcmlcmbnldlaa.Keep Go.Proofs.Ytobcmlcmbnldlaa.Route
set_option linter.unusedVariables false

/-- what stays through SlackTells: all of LR, the document's map, the copy with marks behind; and it is behind w3 -/
structure TK (W w3 : World) (q r : Option Addr) (m : Option Mp) (x : Wd) (os : List FleetMath.Ord) (d : Drv) (A : Option Addr) (n : Nat) (stops : List Stp) (gs : Nat) (u : World) : Prop where
  lr : LR W q m x os d A n stops u
  rm : MapP u 106 W.heap.size (.pointer r) m
  bs : Blk u gs 35 (stpsV (stops ++ List.replicate 80 mkS))
  on : Below w3.heap.size w3 u
section
variable {W w3 u u' : World} {q r : Option Addr} {m : Option Mp} {x : Wd} {os : List FleetMath.Ord} {d : Drv} {A : Option Addr} {n c : Nat} {stops : List Stp} {gs : Nat}
theorem TK.below (h : TK W w3 q r m x os d A n stops gs u) (hb : Below u.heap.size u u') : TK W w3 q r m x os d A n stops gs u' :=
  ⟨h.lr.below hb, h.rm.keep hb, h.bs.below hb h.bs.lt, h.on.trans (hb.mono h.on.size)⟩
theorem TK.from (h : TK W w3 q r m x os d A n stops gs u) : TK W u q r m x os d A n stops gs u := ⟨h.lr, h.rm, h.bs, Below.refl _ _⟩
theorem TK.at_ (h : TK W w3 q r m x os d A n stops gs w3) (hb : Below w3.heap.size w3 u) : TK W w3 q r m x os d A n stops gs u := h.below hb
theorem TK.latest (h : TK W w3 q r m x os d A n stops gs w3) (hu : Below w3.heap.size w3 u) (xs : List Int) (b : Bool) (hd : (latestR m d os stops).getD [] = xs ∧ (latestR m d os stops).isSome = b) (hn : n ≤ maxLen) :
    Calls Try.prog 10 #[.pointer q, drvV d, .slice x.os.a x.os.n x.os.c, .slice (some ⟨gs, 0, none⟩) n (n + 80)] u fun en u' => ∃ B c2, en = .returned (.tuple #[.slice B xs.length c2, .bool b]) ∧ Below w3.heap.size w3 u' ∧ Hid (Own u' w3.heap.size 3 (.slice B xs.length c2) xs.length (intsV xs)) := by
  have h := h.at_ hu
  refine (glatest_any W.heap.size _ m d _ _ _ os _ _ _ stops u h.lr.map h.lr.ords (frontStp h.bs (Stps.length h.lr.stops0) hn) (by omega) x.os.h).mono ?_
  rintro en u' ⟨hb, v, rfl, hv⟩
  rw [hd.1] at hv
  rw [hd.2]
  obtain ⟨B, c2, rfl, _, hr⟩ := hv.read
  exact ⟨B, c2, rfl, hu.trans (hb.mono hu.size), hv.lower hu.size⟩
end

set_option maxRecDepth 100000 in
set_option maxHeartbeats 4000000 in
theorem slackTells_walk (x : Wd) (ts : List Int) (os : List FleetMath.Ord) (d : Drv) (A : Option Addr) (n c : Nat) (stops : List Stp) (W : World) (hts : Ints W W.heap.size x.ts.a x.ts.n ts) (hos : Ords W W.heap.size x.os.a x.os.n os) (hst : Stps W W.heap.size A n stops) (hc : n ≤ c) (hrs : n * 16 ≤ 140737488351232) :
    Calls Try.prog 4 #[wdV x, drvV d, .slice A n c] W fun e w' => e = .returned (.bool true) ∧ Below W.heap.size W w' := by
  have HTS := Lib.hid hts
  have HOS := Lib.hid hos
  have HST := Lib.hid hst
  clear hts hos hst
  obtain ⟨m, hm⟩ : ∃ m, mapOf x.n ts = m := ⟨_, rfl⟩
  have HM := Lib.hid hm
  clear hm
  have HB0 : Hid (Below W.heap.size W ((W.alloc (.cells #[.int .i64 x.n, x.ts.v, x.ds.v, x.os.v, x.pl.v] 50)).alloc (.cells #[.int .i64 d.id, .int .i64 d.room, .int .i64 d.home, .int .i64 d.win.fr, .int .i64 d.win.to, .bool d.retired] 33))) := ((Below.refl _ _).alloc (Nat.le_refl _) _).alloc (by simp) _
  have HW0 : Hid (WBox ((W.alloc (.cells #[.int .i64 x.n, x.ts.v, x.ds.v, x.os.v, x.pl.v] 50)).alloc (.cells #[.int .i64 d.id, .int .i64 d.room, .int .i64 d.home, .int .i64 d.win.fr, .int .i64 d.win.to, .bool d.retired] 33)) W.heap.size x) := (WBox.new W x).below ((Below.refl _ _).alloc (Nat.le_refl _) _)
  have HD0 : Hid (DBox ((W.alloc (.cells #[.int .i64 x.n, x.ts.v, x.ds.v, x.os.v, x.pl.v] 50)).alloc (.cells #[.int .i64 d.id, .int .i64 d.room, .int .i64 d.home, .int .i64 d.win.fr, .int .i64 d.win.to, .bool d.retired] 33)) (W.heap.size + 1) d) := by
    have := Blk.new (W.alloc (.cells #[.int .i64 x.n, x.ts.v, x.ds.v, x.os.v, x.pl.v] 50)) 33 [.int .i64 d.id, .int .i64 d.room, .int .i64 d.home, .int .i64 d.win.fr, .int .i64 d.win.to, .bool d.retired]
    rw [World.size_alloc] at this
    exact this
  obtain ⟨xs, hxs⟩ : ∃ xs, (latestR m d os stops).getD [] = xs := ⟨_, rfl⟩
  obtain ⟨rb, hrb⟩ : ∃ b, (latestR m d os stops).isSome = b := ⟨_, rfl⟩
  have HLT := Lib.hid (And.intro hxs hrb)
  clear hxs hrb
  have hnm2 : n ≤ 9223372036854775807 := by omega
  go_enter Try.func4, Try.ntmps4
  go_wp2_with fail
  refine (kmaps_any x ts _ (by exact Reads.more (Reads.keep HTS.out HB0.out) HB0.out.size)).mono ?_
  rintro e w1 ⟨hb1, q, r, rfl, hq, hr⟩
  have L1 : Hid (LR W q m x os d A n stops w1) := by
    have HM' := HM.out
    rw [HM'] at hq
    exact ⟨HB0.out.trans (hb1.mono HB0.out.size), hq.lower HB0.out.size, HW0.out.below hb1, HD0.out.below hb1, HOS.out, HST.out⟩
  have R1 : Hid (MapP w1 106 W.heap.size (.pointer r) m) := by
    have HM' := HM.out
    rw [HM'] at hr
    exact hr.lower HB0.out.size
  clear hb1 hq hr HB0 HW0 HD0 HTS HOS HST HM
  go_wp2_with fail
  refine (roomyStp A n c stops w1 mkS L1.out.stps hrs).mono ?_
  rintro e w3 ⟨rfl, hb2, hf2⟩
  have D3 : Hid (TK W w3 q r m x os d A n stops (w1.heap.size + 1) w3) := ⟨L1.out.below hb2, R1.out.keep hb2, hf2, Below.refl _ _⟩
  obtain ⟨gs, hgs⟩ : ∃ g, w1.heap.size + 1 = g := ⟨_, rfl⟩
  rw [hgs] at D3 ⊢
  clear hb2 hf2 hgs L1 R1
  have hi2 : (0 : Int) ≤ (n : Int) := by omega
  have hi3 : (n : Int) ≤ (n : Int) + 80 := by omega
  have HMX : Hid (n ≤ maxLen) := by show _ ≤ _; unfold maxLen; omega
  go_upto_region 5 with fail
  go_cut [11, 12] (fun va vb wx => ∃ B c2, va = .slice B xs.length c2 ∧ vb = .bool rb ∧ Hid (Below w3.heap.size w3 wx) ∧ Hid (Own wx w3.heap.size 3 (.slice B xs.length c2) xs.length (intsV xs)))
  case first =>
    have HC : Hid (∀ u, Below w3.heap.size w3 u → ((u.cell? ⟨W.heap.size + 1, 0, none⟩ = some (.int .i64 d.id) ∧ u.cell? ⟨W.heap.size + 1, 1, none⟩ = some (.int .i64 d.room) ∧ u.cell? ⟨W.heap.size + 1, 2, none⟩ = some (.int .i64 d.home) ∧ u.cell? ⟨W.heap.size + 1, 3, none⟩ = some (.int .i64 d.win.fr) ∧ u.cell? ⟨W.heap.size + 1, 4, none⟩ = some (.int .i64 d.win.to) ∧ u.cell? ⟨W.heap.size + 1, 5, none⟩ = some (.bool d.retired)) ∧ u.cell? ⟨W.heap.size, 3, none⟩ = some (.slice x.os.a x.os.n x.os.c))) := fun u hu => (D3.out.at_ hu).lr.cells
    go_region_held3 (fun u => ((u.cell? ⟨W.heap.size + 1, 0, none⟩ = some (.int .i64 d.id) ∧ u.cell? ⟨W.heap.size + 1, 1, none⟩ = some (.int .i64 d.room) ∧ u.cell? ⟨W.heap.size + 1, 2, none⟩ = some (.int .i64 d.home) ∧ u.cell? ⟨W.heap.size + 1, 3, none⟩ = some (.int .i64 d.win.fr) ∧ u.cell? ⟨W.heap.size + 1, 4, none⟩ = some (.int .i64 d.win.to) ∧ u.cell? ⟨W.heap.size + 1, 5, none⟩ = some (.bool d.retired)) ∧ u.cell? ⟨W.heap.size, 3, none⟩ = some (.slice x.os.a x.os.n x.os.c)))
      (first
        | exact HC.out _ (Below.refl _ _).drew
        | exact HC.out _ (by assumption)
        | exact HC.out _ (Below.drew (by assumption)))
      (first
        | (go_at_call 10; (refine (D3.out.latest (by first | assumption | exact (Below.refl _ _).drew) xs rb HLT.out HMX.out).mono ?_); rintro e w' ⟨B, c2, rfl, hbx, hown⟩))
    all_goals
      go_wp2_with fail
      go_meet
      exact ⟨_, _, rfl, rfl, by assumption, by assumption⟩
  case rest =>
  obtain ⟨B4, c4, rfl, rfl, HB4, M4⟩ := hcut
  obtain ⟨w4, rfl⟩ : ∃ w, w = wc := ⟨_, rfl⟩
  have D4 : Hid (TK W w4 q r m x os d A n stops gs w4) := (D3.out.at_ HB4.out).from
  have M40 := M4
  go_upto_region 6 with fail
  go_cut [13, 14] (fun va vb wx => ∃ B c2, va = .slice B xs.length c2 ∧ vb = .bool rb ∧ Hid (Below w4.heap.size w4 wx) ∧ Hid (Own wx w4.heap.size 3 (.slice B xs.length c2) xs.length (intsV xs)))
  case first =>
    have HC : Hid (∀ u, Below w4.heap.size w4 u → ((u.cell? ⟨W.heap.size + 1, 0, none⟩ = some (.int .i64 d.id) ∧ u.cell? ⟨W.heap.size + 1, 1, none⟩ = some (.int .i64 d.room) ∧ u.cell? ⟨W.heap.size + 1, 2, none⟩ = some (.int .i64 d.home) ∧ u.cell? ⟨W.heap.size + 1, 3, none⟩ = some (.int .i64 d.win.fr) ∧ u.cell? ⟨W.heap.size + 1, 4, none⟩ = some (.int .i64 d.win.to) ∧ u.cell? ⟨W.heap.size + 1, 5, none⟩ = some (.bool d.retired)) ∧ u.cell? ⟨W.heap.size, 3, none⟩ = some (.slice x.os.a x.os.n x.os.c))) := fun u hu => (D4.out.at_ hu).lr.cells
    go_region_held3 (fun u => ((u.cell? ⟨W.heap.size + 1, 0, none⟩ = some (.int .i64 d.id) ∧ u.cell? ⟨W.heap.size + 1, 1, none⟩ = some (.int .i64 d.room) ∧ u.cell? ⟨W.heap.size + 1, 2, none⟩ = some (.int .i64 d.home) ∧ u.cell? ⟨W.heap.size + 1, 3, none⟩ = some (.int .i64 d.win.fr) ∧ u.cell? ⟨W.heap.size + 1, 4, none⟩ = some (.int .i64 d.win.to) ∧ u.cell? ⟨W.heap.size + 1, 5, none⟩ = some (.bool d.retired)) ∧ u.cell? ⟨W.heap.size, 3, none⟩ = some (.slice x.os.a x.os.n x.os.c)))
      (first
        | exact HC.out _ (Below.refl _ _).drew
        | exact HC.out _ (by assumption)
        | exact HC.out _ (Below.drew (by assumption)))
      (first
        | (go_at_call 10; (refine (D4.out.latest (by first | assumption | exact (Below.refl _ _).drew) xs rb HLT.out HMX.out).mono ?_); rintro e w' ⟨B, c2, rfl, hbx, hown⟩))
    all_goals
      go_wp2_with fail
      go_meet
      exact ⟨_, _, rfl, rfl, by assumption, by assumption⟩
  case rest =>
  obtain ⟨B5, c5, rfl, rfl, HB5, M5⟩ := hcut
  obtain ⟨w5, rfl⟩ : ∃ w, w = wc := ⟨_, rfl⟩
  have D5 : Hid (TK W w5 q r m x os d A n stops gs w5) := (D4.out.at_ HB5.out).from
  obtain ⟨⟨d0, d1, d2, d3, d4, d5⟩, e0⟩ := D5.out.lr.cells
  go_wp2_with fail
  refine (rlatest_any W.heap.size _ m d _ _ _ os A n c stops _ (by exact D5.out.rm) (by exact D5.out.lr.ords) (by exact D5.out.lr.stps) hc).mono ?_
  rintro e w6 ⟨hb6, v6, rfl, hv6⟩
  rw [HLT.out.1] at hv6
  rw [HLT.out.2]
  obtain ⟨B6, c6, rfl, _, hr6⟩ := hv6.read
  have D6 : Hid (TK W w6 q r m x os d A n stops gs w6) := (D5.out.at_ hb6).from
  have M6 := Lib.hid hr6
  have M60 := Lib.hid hv6
  have M5 := Lib.hid (M5.out.keep hb6 (Nat.le_refl _))
  have M4 := Lib.hid ((M4.out.keep HB5.out (Nat.le_refl _)).keep hb6 (Nat.le_refl _))
  have HB46 : Hid (Below w4.heap.size w4 w6) := HB5.out.trans (hb6.mono HB5.out.size)
  have HX5 := Lib.hid HB5.out.size
  clear hb6 hv6 hr6 d0 d1 d2 d3 d4 d5 e0 D4 D5
  have ebb : (rb != rb) = false := by simp
  go_wp2_with fail
  refine (sameInts B4 B6 xs.length c4 c6 xs _ _ w6 (by exact M4.out.reads) (by exact M6.out)).mono ?_
  rintro e w7 ⟨rfl, dn1, hw7⟩
  have HW7 := Lib.hid hw7
  clear hw7
  go_wp2_with fail
  refine (sameInts B5 B6 xs.length c5 c6 xs _ _ w7 (by rw [HW7.out]; exact Reads.drewN M5.out.reads dn1) (by rw [HW7.out]; exact Reads.drewN M6.out dn1)).mono ?_
  rintro e w8 ⟨rfl, dn2, hw8⟩
  have HB68 : Hid (Below w6.heap.size w6 w8) := by rw [hw8, HW7.out]; exact below_drewN (below_drewN (Below.refl _ _) _) _
  have hxm := M6.out.le
  have T0 : Hid (Turns w8 w3.heap.size w4.heap.size B4 xs.length 1 3 w8) := Turns.start M40.out (HB46.out.trans (HB68.out.mono HB46.out.size))
  have D8 : Hid (TK W w6 q r m x os d A n stops gs w8) := D6.out.at_ HB68.out
  have N5 : Hid (OwnK w8 w4.heap.size 3 1 (.slice B5 xs.length c5) xs.length (intsV xs)) := OwnK.keep M5.out HB68.out (Nat.le_refl _)
  have N6 := Lib.hid (OwnK.keep M60.out HB68.out (Nat.le_refl _))
  clear HW7 hw8 M4 M5 M6 ebb
  go_wp2_with fail
  go_loopw [17] (fun iv wr => ∃ k : Nat, k ≤ xs.length ∧ iv = .int .i64 k ∧ Hid (Turns w8 w3.heap.size w4.heap.size B4 xs.length 1 3 wr)) (fun iv _ => xs.length - (intOf iv).toNat)
  case atStart => exact ⟨0, Nat.zero_le _, rfl, T0⟩
  case round =>
    clear T0
    obtain ⟨k, hk, rfl, HT⟩ := hrel
    by_cases hlt : k < xs.length
    · obtain ⟨g3, rfl, hg1, hg2, hall⟩ := HT.out.at_ hlt
      obtain ⟨⟨x0, y0⟩, z0⟩ := hall 0 (by omega)
      simp only [Nat.add_zero, Nat.mul_one] at y0 z0
      have HG := Lib.hid (And.intro hg1 hg2)
      clear hall hg1 hg2
      go_wp2_with fail
      go_roundw
      case rel => exact ⟨k + 1, by omega, by go_num, HT.out.set HG.out.1 HG.out.2 _ _⟩
      case measure => simp [intOf]; omega
    · have hb0 : Below w3.heap.size w3 wr := (HB4.out.trans (((HB46.out.trans (HB68.out.mono HB46.out.size))).mono HB4.out.size)).trans HT.out.below
      have DZ : Hid (TK W wr q r m x os d A n stops gs wr) := (D3.out.at_ hb0).from
      have P5 : Hid (Ints wr wr.heap.size B5 xs.length xs) := Own.reads (HT.out.own N5.out (Nat.le_refl _))
      have P6 : Hid (Ints wr wr.heap.size B6 xs.length xs) := Own.reads (HT.out.own N6.out HX5.out)
      clear hb0 HT N5 N6 D3 D6 D8 M40 M60 HB4 HB5 HB46 HB68 HX5
      go_wp2_with fail
      refine (sameInts B5 B6 xs.length c5 c6 xs _ _ wr (by exact P5.out) (by exact P6.out)).mono ?_
      rintro e w9 ⟨rfl, dn3, hw9⟩
      have DY : Hid (TK W w9 q r m x os d A n stops gs w9) := by rw [hw9]; exact (DZ.out.at_ (below_drewN (Below.refl _ _) _)).from
      clear hw9 DZ P5 P6
      go_wp2_with fail
      refine (intactStp A gs n c stops W.heap.size mkS _ (by exact Recs.keep DY.out.lr.stops0 DY.out.lr.old) (by omega) (by exact DY.out.bs) (by exact DY.out.lr.old.size)).mono ?_
      rintro e wa ⟨rfl, hb⟩
      have DX : Hid (TK W wa q r m x os d A n stops gs wa) := (DY.out.at_ hb).from
      clear DY hb
      go_wp2_with fail
      refine (runs_any _).mono ?_
      rintro e wz ⟨rfl, hb⟩
      have LZ : Hid (Below W.heap.size W wz) := DX.out.lr.old.trans (hb.mono DX.out.lr.old.size)
      clear hb DX
      go_wp2_with fail
      go_ret
      exact ⟨rfl, LZ.out⟩

#print axioms slackTells_walk
end Go.Proofs.Ytobcmlcmbnldlaa.Slack
