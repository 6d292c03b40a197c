/-
  RouteLater walked.
-/
import Derived.Test.YtjkahookgoecpaaRouteRuns
import Derived.Test.YtjkahookgoecpaaRouteMathsB
import Derived.Deep.DeepCutAuto
namespace Go.Proofs.Ytjkahookgoecpaa.Route
open Go.ChangeShapes Go.WideShapes Go.ChangeAt Go.RowKit Go.Proofs.Ytjkahookgoecpaa.Mem Go.Proofs.Ytjkahookgoecpaa.GeoMath Go.Proofs.Ytjkahookgoecpaa.FleetMath Go.Proofs.Ytjkahookgoecpaa.Rec Go.Proofs.Ytjkahookgoecpaa.Geo Go.Proofs.Ytjkahookgoecpaa.Span Go.Proofs.Ytjkahookgoecpaa.Deal Go.Proofs.Ytjkahookgoecpaa.Keep
set_option linter.unusedVariables false

/-- a fault in a block of its own -/
def FBox (u : World) (g k : Nat) (e : Int) : Prop := Blk u g 39 [.int .i64 k, .int .i64 e]
theorem FBox.below {u u' : World} {g k : Nat} {e : Int} (h : FBox u g k e) (hb : Below u.heap.size u u') : FBox u' g k e := Blk.below h hb (Blk.lt h)
theorem FBox.cells {u : World} {g k : Nat} {e : Int} (h : FBox u g k e) : u.cell? ⟨g, 0, none⟩ = some (.int .i64 k) ∧ u.cell? ⟨g, 1, none⟩ = some (.int .i64 e) := ⟨Blk.cell h rfl, Blk.cell h rfl⟩
theorem fgood_any (k : Nat) (e : Int) (w : World) : Calls Try.prog 21 #[faultV k e] w (Gives w (.bool (e == 0))) := by
  go_enter Try.func21, Try.ntmps21
  go_wp2
  go_ret
  exact ⟨rfl, (Below.refl _ _).alloc (Nat.le_refl _) _⟩
/-- what stays through the statements of chapter 7: the map, the world, the driver that was handed in, the lists -/
structure LR (W : World) (q : Option Addr) (m : Option Mp) (x : Wd) (os : List FleetMath.Ord) (d : Drv) (A : Option Addr) (n : Nat) (stops : List Stp) (u : World) : Prop where
  old : Below W.heap.size W u
  map : MapP u 74 W.heap.size (.pointer q) m
  wd : WBox u W.heap.size x
  drv : DBox u (W.heap.size + 1) d
  os0 : Ords W W.heap.size x.os.a x.os.n os
  stops0 : Stps W W.heap.size A n stops
section
variable {W u u' : World} {q : Option Addr} {m : Option Mp} {x : Wd} {os : List FleetMath.Ord} {d : Drv} {A : Option Addr} {n : Nat} {stops : List Stp}
theorem LR.below (h : LR W q m x os d A n stops u) (hb : Below u.heap.size u u') : LR W q m x os d A n stops u' :=
  ⟨h.old.trans (hb.mono h.old.size), h.map.keep hb, h.wd.below hb, h.drv.below hb, h.os0, h.stops0⟩
theorem LR.ords (h : LR W q m x os d A n stops u) : Ords u u.heap.size x.os.a x.os.n os := Recs.more (Recs.keep h.os0 h.old) h.old.size
theorem LR.stps (h : LR W q m x os d A n stops u) : Stps u u.heap.size A n stops := Recs.more (Recs.keep h.stops0 h.old) h.old.size
theorem LR.alloc (h : LR W q m x os d A n stops u) (o : Obj) : LR W q m x os d A n stops (u.alloc o) := h.below ((Below.refl _ _).alloc (Nat.le_refl _) _)
end
/-- a driver in a block made behind w -/
def MDr (w : World) (d : Drv) (g : Nat) (u : World) : Prop := Below w.heap.size w u ∧ w.heap.size ≤ g ∧ DBox u g d
theorem MDr.new (w : World) (d : Drv) : MDr w d w.heap.size (w.alloc (.cells #[.int .i64 d.id, .int .i64 d.room, .int .i64 d.home, .int .i64 d.win.fr, .int .i64 d.win.to, .bool d.retired] 33)) := ⟨(Below.refl _ _).alloc (Nat.le_refl _) _, Nat.le_refl _, Blk.new w _ _⟩
/-- one drive of the program, by what the document says of it -/
theorem ldrive (W : World) (q : Option Addr) (m : Option Mp) (x : Wd) (os : List FleetMath.Ord) (d d' : Drv) (A : Option Addr) (n c : Nat) (stops : List Stp) (vs : List Vis) (k : Nat) (e : Int) (u : World) (h : LR W q m x os d A n stops u) (hc : n ≤ c) (hd : drive m d' os stops = (vs, k, e)) :
    Calls Try.prog 11 #[.pointer q, drvV d', .slice x.os.a x.os.n x.os.c, .slice A n c] u fun en u' => ∃ B c2, en = .returned (.tuple #[.slice B vs.length c2, faultV k e]) ∧ Below u.heap.size u u' ∧ Viss u' u'.heap.size B vs.length vs := by
  refine (gdrive_any W.heap.size _ m d' _ _ _ os A n c stops u h.map h.ords h.stps hc x.os.h).mono ?_
  rintro en u' ⟨hb, v, rfl, hv⟩
  rw [hd] at hv ⊢
  obtain ⟨B, c2, rfl, _, hr⟩ := hv.read
  exact ⟨B, c2, rfl, hb, hr⟩

set_option maxRecDepth 100000 in
set_option maxHeartbeats 4000000 in
theorem routeLater_walk (x : Wd) (ts : List Int) (os : List FleetMath.Ord) (d : Drv) (A : Option Addr) (n c : Nat) (stops : List Stp) (later : Int) (W : World) (hts : Ints W W.heap.size x.ts.a x.ts.n ts) (hos : Ords W W.heap.size x.os.a x.os.n os) (hst : Stps W W.heap.size A n stops) (hc : n ≤ c) :
    Calls Try.prog 7 #[wdV x, drvV d, .slice A n c, .int .i64 later] W fun e w' => e = .returned (.bool true) ∧ Below W.heap.size W w' := by
  have HTS := Lib.hid hts
  have HOS := Lib.hid hos
  have HST := Lib.hid hst
  clear hts hos hst
  obtain ⟨m, hm⟩ : ∃ m, mapOf x.n ts = m := ⟨_, rfl⟩
  have HM := Lib.hid hm
  clear hm
  have HB0 : Hid (Below W.heap.size W ((W.alloc (.cells #[.int .i64 x.n, x.ts.v, x.ds.v, x.os.v, x.pl.v] 52)).alloc (.cells #[.int .i64 d.id, .int .i64 d.room, .int .i64 d.home, .int .i64 d.win.fr, .int .i64 d.win.to, .bool d.retired] 33))) := ((Below.refl _ _).alloc (Nat.le_refl _) _).alloc (by simp) _
  have HW0 : Hid (WBox ((W.alloc (.cells #[.int .i64 x.n, x.ts.v, x.ds.v, x.os.v, x.pl.v] 52)).alloc (.cells #[.int .i64 d.id, .int .i64 d.room, .int .i64 d.home, .int .i64 d.win.fr, .int .i64 d.win.to, .bool d.retired] 33)) W.heap.size x) := (WBox.new W x).below ((Below.refl _ _).alloc (Nat.le_refl _) _)
  have HD0 : Hid (DBox ((W.alloc (.cells #[.int .i64 x.n, x.ts.v, x.ds.v, x.os.v, x.pl.v] 52)).alloc (.cells #[.int .i64 d.id, .int .i64 d.room, .int .i64 d.home, .int .i64 d.win.fr, .int .i64 d.win.to, .bool d.retired] 33)) (W.heap.size + 1) d) := by
    have := Blk.new (W.alloc (.cells #[.int .i64 x.n, x.ts.v, x.ds.v, x.os.v, x.pl.v] 52)) 33 [.int .i64 d.id, .int .i64 d.room, .int .i64 d.home, .int .i64 d.win.fr, .int .i64 d.win.to, .bool d.retired]
    rw [World.size_alloc] at this
    exact this
  obtain ⟨⟨vs, fk, fe⟩, hdr⟩ : ∃ r, drive m d os stops = r := ⟨_, rfl⟩
  have HDR := Lib.hid hdr
  clear hdr
  go_enter Try.func7, Try.ntmps7
  go_wp2_with fail
  refine (kmaps_any x ts _ (by exact Reads.more (Reads.keep HTS.out HB0.out) HB0.out.size)).mono ?_
  rintro e w1 ⟨hb1, q, r, rfl, hq, _⟩
  have L1 : Hid (LR W q m x os d A n stops w1) := by
    have HM' := HM.out
    rw [HM'] at hq
    exact ⟨HB0.out.trans (hb1.mono HB0.out.size), hq.lower HB0.out.size, HW0.out.below hb1, HD0.out.below hb1, HOS.out, HST.out⟩
  clear hb1 hq HB0 HW0 HD0 HTS HOS HST HM
  obtain ⟨c0, c1, c2, c3, c4⟩ := L1.out.wd.cells
  obtain ⟨d0, d1, d2, d3, d4, d5⟩ := L1.out.drv.cells
  go_wp2_with fail
  refine (ldrive W q m x os d d A n c stops vs fk fe _ (by exact L1.out) hc HDR.out).mono ?_
  rintro e w2 ⟨B, c5, rfl, hb, hvs⟩
  have L2 := Lib.hid ((L1.out.below hb).alloc (.cells #[.int .i64 fk, .int .i64 fe] 39))
  have F2 : Hid (FBox (w2.alloc (.cells #[.int .i64 fk, .int .i64 fe] 39)) w2.heap.size fk fe) := Blk.new w2 _ _
  have HV2 : Hid (Viss (w2.alloc (.cells #[.int .i64 fk, .int .i64 fe] 39)) w2.heap.size B vs.length vs) := Recs.alloc hvs (Nat.le_refl _) _
  clear hb hvs L1 c0 c1 c2 c3 c4 d0 d1 d2 d3 d4 d5
  have z1 := F2.out.cells.2
  by_cases he : fe = 1
  · have hz : vs = [] := by
      have := drive_empty (m := m) (d := d) (os := os) (stops := stops) (by rw [HDR.out]; simp only; omega)
      rw [HDR.out] at this
      exact this
    subst hz
    subst he
    simp only [List.length_nil]
    go_wp2_with fail
    refine (runs_any _).mono ?_
    rintro e w4 ⟨rfl, hb⟩
    have LZ : Hid (Below W.heap.size W w4) := L2.out.old.trans (hb.mono L2.out.old.size)
    clear hb
    go_wp2_with fail
    go_ret
    exact ⟨rfl, LZ.out⟩
  have HNE : Hid ((drive m d os stops).2.2 ≠ 1) := by
    show _ ≠ _
    rw [HDR.out]
    exact he
  have e1 : (fe == 1) = false := by simpa using he
  obtain ⟨d0, d1, d2, d3, d4, d5⟩ := L2.out.drv.cells
  have M5 := Lib.hid (MDr.new (w2.alloc (.cells #[.int .i64 fk, .int .i64 fe] 39)) d)
  have y3 : ((w2.alloc (.cells #[.int .i64 fk, .int .i64 fe] 39)).alloc (.cells #[.int .i64 d.id, .int .i64 d.room, .int .i64 d.home, .int .i64 d.win.fr, .int .i64 d.win.to, .bool d.retired] 33)).cell? ⟨W.heap.size + 1, 3, none⟩ = some (.int .i64 d.win.fr) := (L2.out.alloc _).drv.cells.2.2.2.1
  have y4 : ((w2.alloc (.cells #[.int .i64 fk, .int .i64 fe] 39)).alloc (.cells #[.int .i64 d.id, .int .i64 d.room, .int .i64 d.home, .int .i64 d.win.fr, .int .i64 d.win.to, .bool d.retired] 33)).cell? ⟨W.heap.size + 1, 4, none⟩ = some (.int .i64 d.win.to) := (L2.out.alloc _).drv.cells.2.2.2.2.1
  clear he
  simp only [World.size_alloc] at M5
  go_upto_region 8 with fail
  go_cut [56] (fun b wx => wx = (w2.alloc (.cells #[.int .i64 fk, .int .i64 fe] 39)).alloc (.cells #[.int .i64 d.id, .int .i64 d.room, .int .i64 d.home, .int .i64 d.win.fr, .int .i64 d.win.to, .bool d.retired] 33) ∧ ∃ tb : Bool, b = .bool tb ∧ Hid (tb = true → d.win.fr < later ∧ later ≤ d.win.to))
  case first =>
    by_cases h1 : d.win.fr < later
    · by_cases h2 : later ≤ d.win.to
      · go_wp2_with fail
        go_meet
        exact ⟨rfl, _, rfl, fun _ => ⟨h1, h2⟩⟩
      · go_wp2_with fail
        go_meet
        exact ⟨rfl, false, by first | rfl | simp only [decide_false] | simp [h2], fun h => by cases h⟩
    · go_wp2_with fail
      go_meet
      exact ⟨rfl, false, rfl, fun h => by cases h⟩
  case rest =>
  obtain ⟨rfl, tb, rfl, HTB⟩ := hcut
  go_upto_if 56 with fail
  go_cut [] (fun wx => Hid (∃ fr, (fr = d.win.fr ∨ (d.win.fr < fr ∧ fr ≤ d.win.to)) ∧ MDr (w2.alloc (.cells #[.int .i64 fk, .int .i64 fe] 39)) ⟨d.id, d.room, d.home, ⟨fr, d.win.to⟩, d.retired⟩ (w2.heap.size + 1) wx))
  case first =>
    cases tb with
    | true =>
      go_wp2_with fail
      go_meet
      have := MDr.new (w2.alloc (.cells #[.int .i64 fk, .int .i64 fe] 39)) ⟨d.id, d.room, d.home, ⟨later, d.win.to⟩, d.retired⟩
      rw [World.size_alloc] at this
      exact ⟨later, .inr (HTB.out (by trivial)), this⟩
    | false =>
      go_wp2_with fail
      go_meet
      exact ⟨d.win.fr, .inl rfl, M5.out⟩
  case rest =>
  obtain ⟨fr, hfr, hmd⟩ := hcut.out
  have HFR := Lib.hid hfr
  have L3 := Lib.hid (L2.out.below hmd.1)
  have F3 := Lib.hid (F2.out.below hmd.1)
  have HV3 : Hid (Viss wc w2.heap.size B vs.length vs) := Recs.keep HV2.out (hmd.1.mono (by simp))
  have hs23 : w2.heap.size ≤ wc.heap.size := by have := hmd.1.size; simp at this; omega
  obtain ⟨e0, e1', e2, e3, e4, e5⟩ := hmd.2.2.cells
  simp only at e0 e1' e2 e3 e4 e5
  obtain ⟨c0, c1, c2, c3, c4⟩ := L3.out.wd.cells
  clear hcut hmd hfr L2 F2 HV2 M5 y3 y4 d0 d1 d2 d3 d4 d5 z1 e1
  obtain ⟨⟨us, gk, ge⟩, hdg⟩ : ∃ r, drive m ⟨d.id, d.room, d.home, ⟨fr, d.win.to⟩, d.retired⟩ os stops = r := ⟨_, rfl⟩
  have HDG := Lib.hid hdg
  clear hdg
  have HLT : Hid (ge = 0 → fe = 0 ∧ Later vs us) := fun hge => by
    have := drive_later HNE.out HFR.out (by rw [HDG.out]; exact hge)
    rw [HDR.out, HDG.out] at this
    exact this
  go_wp2_with fail
  refine (ldrive W q m x os d ⟨d.id, d.room, d.home, ⟨fr, d.win.to⟩, d.retired⟩ A n c stops us gk ge _ (by exact L3.out) hc HDG.out).mono ?_
  rintro e w5 ⟨B5, c6, rfl, hb, hus⟩
  have L5 := Lib.hid ((L3.out.below hb).alloc (.cells #[.int .i64 gk, .int .i64 ge] 39))
  have F5 := Lib.hid ((F3.out.below hb).below ((Below.refl _ _).alloc (Nat.le_refl _) (.cells #[.int .i64 gk, .int .i64 ge] 39)))
  have G5 : Hid (FBox (w5.alloc (.cells #[.int .i64 gk, .int .i64 ge] 39)) w5.heap.size gk ge) := Blk.new w5 _ _
  have HV5 : Hid (Viss (w5.alloc (.cells #[.int .i64 gk, .int .i64 ge] 39)) w5.heap.size B vs.length vs) := by
    have h1 := hs23
    have := Recs.keep HV3.out (hb.mono h1)
    exact Recs.alloc (Recs.more this (Nat.le_trans h1 hb.size)) (Nat.le_refl _) _
  have HU5 : Hid (Viss (w5.alloc (.cells #[.int .i64 gk, .int .i64 ge] 39)) w5.heap.size B5 us.length us) := Recs.alloc hus (Nat.le_refl _) _
  clear hb hus L3 F3 HV3 c0 c1 c2 c3 c4 e0 e1' e2 e3 e4 e5
  obtain ⟨z0, z1⟩ := G5.out.cells
  go_wp2_with fail
  refine (fgood_any gk ge _).mono ?_
  rintro e w6 ⟨rfl, hb⟩
  have L6 := Lib.hid (L5.out.below hb)
  have F6 := Lib.hid (F5.out.below hb)
  have HV6 : Hid (Viss w6 w5.heap.size B vs.length vs) := Recs.keep HV5.out (hb.mono (by simp))
  have HU6 : Hid (Viss w6 w5.heap.size B5 us.length us) := Recs.keep HU5.out (hb.mono (by simp))
  have hs56 : w5.heap.size ≤ w6.heap.size := by have := hb.size; simp at this; omega
  clear hb L5 F5 G5 HV5 HU5 z0 z1
  by_cases hge : ge = 0
  case neg =>
    have hz : us = [] := by
      have := drive_empty (m := m) (d := ⟨d.id, d.room, d.home, ⟨fr, d.win.to⟩, d.retired⟩) (os := os) (stops := stops) (by rw [HDG.out]; exact hge)
      rw [HDG.out] at this
      exact this
    subst hz
    have e1 : (ge == 0) = false := by simpa using hge
    rw [e1]
    simp only [List.length_nil]
    clear hge e1
    go_wp2_with fail
    refine (runs_any _).mono ?_
    rintro e w7 ⟨rfl, hb⟩
    have LZ : Hid (Below W.heap.size W w7) := L6.out.old.trans (hb.mono L6.out.old.size)
    clear hb
    go_wp2_with fail
    go_ret
    exact ⟨rfl, LZ.out⟩
  obtain ⟨hfe, hlt⟩ := HLT.out hge
  subst hge
  subst hfe
  have hlen := hlt.1
  have HLAT := Lib.hid hlt.2
  clear hlt HLT
  obtain ⟨z0, z1⟩ := F6.out.cells
  go_wp2_with fail
  refine (fgood_any fk 0 _).mono ?_
  rintro e w7 ⟨rfl, hb⟩
  have L7 := Lib.hid (L6.out.below hb)
  have HV7 : Hid (Viss w7 w5.heap.size B vs.length vs) := Recs.keep HV6.out (hb.mono hs56)
  have HU7 : Hid (Viss w7 w5.heap.size B5 us.length us) := Recs.keep HU6.out (hb.mono hs56)
  clear hb L6 F6 HV6 HU6 z0 z1
  rw [← hlen] at HU7 ⊢
  have hvm := Recs.le HV7.out
  clear hs23 hs56
  go_wp2_with fail
  go_loopw [17] (fun iv wr => ∃ k : Nat, k ≤ vs.length ∧ iv = .int .i64 k ∧ Hid (Below W.heap.size W wr) ∧ Hid (Viss wr w5.heap.size B vs.length vs) ∧ Hid (Viss wr w5.heap.size B5 vs.length us)) (fun iv _ => vs.length - (intOf iv).toNat)
  case atStart => exact ⟨0, Nat.zero_le _, rfl, L7.out.old, HV7, HU7⟩
  case round =>
    clear L7 HV7 HU7
    obtain ⟨k, hk, rfl, HB, HV, HU⟩ := hrel
    by_cases hlt : k < vs.length
    · obtain ⟨bv, ov, v, rfl, _, hv, _, _, _, _, v3, _, v5⟩ := Viss.at_ HV.out hlt
      obtain ⟨bu, ou, u, rfl, _, hu, _, _, _, _, u3, _, u5⟩ := Viss.at_ HU.out hlt
      obtain ⟨h1, h2⟩ := HLAT.out k v u hv hu
      clear hv hu
      rw [← h2] at u5
      clear h2
      have hlt2 : (k : Int) < (vs.length : Int) := by omega
      have e1 : decide (u.start < v.start) = false := decide_eq_false (by omega)
      go_wp2_with fail
      go_quiet (fail)
      go_wp2_with fail
      go_roundw
      case rel => exact ⟨k + 1, by omega, by go_num, below_drewN HB.out _, HV, HU⟩
      case measure => simp [intOf]; omega
    · go_wp2_with fail
      refine (runs_any _).mono ?_
      rintro e w8 ⟨rfl, hb⟩
      have LZ : Hid (Below W.heap.size W w8) := HB.out.trans (hb.mono HB.out.size)
      clear hb
      go_wp2_with fail
      go_ret
      exact ⟨rfl, LZ.out⟩

#print axioms routeLater_walk
end Go.Proofs.Ytjkahookgoecpaa.Route
