/-
  DealTells walked.
-/
import Derived.Test.YtofkhpcigjcegaaDealRuns
import Derived.Test.YtofkhpcigjcegaaDealRAlone
import Derived.Deep.RegionLaw
namespace Go.Proofs.Ytofkhpcigjcegaa.Deal
open Go.ChangeShapes Go.WideShapes Go.ChangeAt Go.RowKit Go.Proofs.Ytofkhpcigjcegaa.Mem Go.Proofs.Ytofkhpcigjcegaa.GeoMath Go.Proofs.Ytofkhpcigjcegaa.FleetMath Go.Proofs.Ytofkhpcigjcegaa.Rec Go.Proofs.Ytofkhpcigjcegaa.Geo Go.Proofs.Ytofkhpcigjcegaa.Span Go.Proofs.Ytofkhpcigjcegaa.Keep
set_option linter.unusedVariables false

theorem optV_form6 (o : Option Int) : ∃ v r, optV o = .tuple #[.int .i64 v, .bool r] := by cases o; exact ⟨_, _, rfl⟩; exact ⟨_, _, rfl⟩
theorem ralone_val (base : Nat) (pv : Value) (m : Option Mp) (w : World) (h : MapP w 82 base pv m) (d : Drv) (o : FleetMath.Ord) (v : Int) (r : Bool) (hv : optV (alone m d o) = .tuple #[.int .i64 v, .bool r]) : Calls Try.prog 14 #[pv, drvV d, ordV o] w (Gives w (.tuple #[.int .i64 v, .bool r])) := by rw [← hv]; exact ralone_any base pv m d o w h

/-- what stays through DealTells: the maps, the order, the driver -/
def TB (W : World) (q r : Option Addr) (m : Option Mp) (o : FleetMath.Ord) (d : Drv) (u : World) : Prop :=
  Below W.heap.size W u ∧ MapP u 65 W.heap.size (.pointer q) m ∧ MapP u 82 W.heap.size (.pointer r) m ∧ OBox u (W.heap.size + 1) o ∧ DBox u (W.heap.size + 1 + 1) d
theorem TB.below {W u u' : World} {q r : Option Addr} {m : Option Mp} {o : FleetMath.Ord} {d : Drv} (h : TB W q r m o d u) (hb : Below u.heap.size u u') : TB W q r m o d u' :=
  ⟨h.1.trans (hb.mono h.1.size), h.2.1.keep hb, h.2.2.1.keep hb, h.2.2.2.1.below hb, h.2.2.2.2.below hb⟩
theorem TB.drew {W u : World} {q r : Option Addr} {m : Option Mp} {o : FleetMath.Ord} {d : Drv} (h : TB W q r m o d u) : TB W q r m o d u.drew := h.below (Below.refl _ _).drew
def TBC (W : World) (q r : Option Addr) (m : Option Mp) (o : FleetMath.Ord) (d : Drv) (u : World) : Prop :=
  (u.cell? ⟨W.heap.size + 1, 0, none⟩ = some (.int .i64 o.id) ∧ u.cell? ⟨W.heap.size + 1, 1, none⟩ = some (.int .i64 o.size) ∧ u.cell? ⟨W.heap.size + 1, 2, none⟩ = some (.int .i64 o.pick.place) ∧ u.cell? ⟨W.heap.size + 1, 3, none⟩ = some (.int .i64 o.pick.win.fr) ∧ u.cell? ⟨W.heap.size + 1, 4, none⟩ = some (.int .i64 o.pick.win.to) ∧ u.cell? ⟨W.heap.size + 1, 5, none⟩ = some (.int .i64 o.pick.serv) ∧
    u.cell? ⟨W.heap.size + 1, 6, none⟩ = some (.int .i64 o.drop.place) ∧ u.cell? ⟨W.heap.size + 1, 7, none⟩ = some (.int .i64 o.drop.win.fr) ∧ u.cell? ⟨W.heap.size + 1, 8, none⟩ = some (.int .i64 o.drop.win.to) ∧ u.cell? ⟨W.heap.size + 1, 9, none⟩ = some (.int .i64 o.drop.serv)) ∧
  (u.cell? ⟨W.heap.size + 1 + 1, 0, none⟩ = some (.int .i64 d.id) ∧ u.cell? ⟨W.heap.size + 1 + 1, 1, none⟩ = some (.int .i64 d.room) ∧ u.cell? ⟨W.heap.size + 1 + 1, 2, none⟩ = some (.int .i64 d.home) ∧ u.cell? ⟨W.heap.size + 1 + 1, 3, none⟩ = some (.int .i64 d.win.fr) ∧ u.cell? ⟨W.heap.size + 1 + 1, 4, none⟩ = some (.int .i64 d.win.to) ∧ u.cell? ⟨W.heap.size + 1 + 1, 5, none⟩ = some (.bool d.retired)) ∧ TB W q r m o d u
theorem TB.cells {W u : World} {q r : Option Addr} {m : Option Mp} {o : FleetMath.Ord} {d : Drv} (h : TB W q r m o d u) : TBC W q r m o d u := ⟨h.2.2.2.1.cells, h.2.2.2.2.cells, h⟩
section
variable (W : World) (q r : Option Addr) (m : Option Mp) (o : FleetMath.Ord) (d : Drv) (u : World) (h : TB W q r m o d u)
include h
theorem gorder_tb (v : Int) (hv : ordE m o = v) : Calls Try.prog 10 #[.pointer q, ordV o] u fun e w' => e = .returned (.int .i64 v) ∧ TB W q r m o d w' := (gorder_val W.heap.size _ m u h.2.1 o v hv).mono fun e w' ⟨h1, h2⟩ => ⟨h1, h.below h2⟩
theorem rorder_tb (v : Int) (hv : ordE m o = v) : Calls Try.prog 15 #[.pointer r, ordV o] u fun e w' => e = .returned (.int .i64 v) ∧ TB W q r m o d w' := (rorder_val W.heap.size _ m o v u h.2.2.1 hv).mono fun e w' ⟨h1, h2⟩ => ⟨h1, h.below h2⟩
theorem gdriver_tb (v : Int) (hv : drvE m d = v) : Calls Try.prog 11 #[.pointer q, drvV d] u fun e w' => e = .returned (.int .i64 v) ∧ TB W q r m o d w' := (gdriver_val W.heap.size _ m u h.2.1 d v hv).mono fun e w' ⟨h1, h2⟩ => ⟨h1, h.below h2⟩
theorem rdriver_tb (v : Int) (hv : drvE m d = v) : Calls Try.prog 16 #[.pointer r, drvV d] u fun e w' => e = .returned (.int .i64 v) ∧ TB W q r m o d w' := (rdriver_val W.heap.size _ m d v u h.2.2.1 hv).mono fun e w' ⟨h1, h2⟩ => ⟨h1, h.below h2⟩
theorem runs_tb : Calls Try.prog 3 #[] u fun e w' => e = .returned (.bool true) ∧ TB W q r m o d w' := (runs_any u).mono fun e w' ⟨h1, h2⟩ => ⟨h1, h.below h2⟩
end

set_option maxRecDepth 100000 in
set_option maxHeartbeats 4000000 in
theorem dealTells_walk (x : Wd) (ts : List Int) (o : FleetMath.Ord) (d : Drv) (W : World) (hts : Ints W W.heap.size x.ts.a x.ts.n ts) :
    Calls Try.prog 4 #[wdV x, ordV o, drvV d] W fun e w' => e = .returned (.bool true) ∧ Below W.heap.size W w' := by
  have HTS := Lib.hid hts
  clear hts
  obtain ⟨m, hm⟩ : ∃ m, mapOf x.n ts = m := ⟨_, rfl⟩
  have HM := Lib.hid hm
  obtain ⟨v1, hv1⟩ : ∃ v, ordE m o = v := ⟨_, rfl⟩
  obtain ⟨v2, hv2⟩ : ∃ v, drvE m d = v := ⟨_, rfl⟩
  obtain ⟨v3, r3, hv3⟩ := optV_form6 (alone m d o)
  have V1 := Lib.hid hv1
  have V2 := Lib.hid hv2
  have V3 := Lib.hid hv3
  clear hm hv1 hv2 hv3
  have HB0 : Hid (Below W.heap.size W (((W.alloc (.cells #[.int .i64 x.n, x.ts.v, x.ds.v, x.os.v, x.pl.v] 47)).alloc (ordO o)).alloc (drvO d))) := (((Below.refl _ _).alloc (Nat.le_refl _) _).alloc (by simp) _).alloc (by simp; omega) _
  have HO0 : Hid (OBox (((W.alloc (.cells #[.int .i64 x.n, x.ts.v, x.ds.v, x.os.v, x.pl.v] 47)).alloc (ordO o)).alloc (drvO d)) (W.heap.size + 1) o) := by
    have := (ordO_new (W.alloc (.cells #[.int .i64 x.n, x.ts.v, x.ds.v, x.os.v, x.pl.v] 47)) o).alloc (drvO d)
    rw [World.size_alloc] at this
    exact this
  have HD0 : Hid (DBox (((W.alloc (.cells #[.int .i64 x.n, x.ts.v, x.ds.v, x.os.v, x.pl.v] 47)).alloc (ordO o)).alloc (drvO d)) (W.heap.size + 1 + 1) d) := by
    have := drvO_new ((W.alloc (.cells #[.int .i64 x.n, x.ts.v, x.ds.v, x.os.v, x.pl.v] 47)).alloc (ordO o)) d
    rw [World.size_alloc, World.size_alloc] at this
    exact this
  go_enter Try.func4, Try.ntmps4
  go_wp2_with fail
  refine (kmaps_any x ts _ (by exact Reads.more (Reads.keep HTS.out HB0.out) HB0.out.size)).mono ?_
  rintro e w1 ⟨hb1, q, r, rfl, hq, hr⟩
  have T1 : Hid (TB W q r m o d w1) := by
    have HM' := HM.out
    rw [HM'] at hq hr
    exact ⟨HB0.out.trans (hb1.mono HB0.out.size), hq.lower HB0.out.size, hr.lower HB0.out.size, HO0.out.below hb1, HD0.out.below hb1⟩
  clear hb1 hq hr HB0 HO0 HD0 HTS
  obtain ⟨⟨a0, a1, a2, a3, a4, a5, a6, a7, a8, a9⟩, ⟨d0, d1, d2, d3, d4, d5⟩, _⟩ := T1.out.cells
  go_wp2_with fail
  refine (galone_val W.heap.size _ m _ (by exact T1.out.2.1) d o v3 r3 V3.out).mono ?_
  rintro e w2 ⟨rfl, hb⟩
  have T2 := Lib.hid (T1.out.below hb)
  clear hb T1 a0 a1 a2 a3 a4 a5 a6 a7 a8 a9 d0 d1 d2 d3 d4 d5
  obtain ⟨⟨a0, a1, a2, a3, a4, a5, a6, a7, a8, a9⟩, ⟨d0, d1, d2, d3, d4, d5⟩, _⟩ := T2.out.cells
  go_wp2_with fail
  refine (ralone_val W.heap.size _ m _ (by exact T2.out.2.2.1) d o v3 r3 V3.out).mono ?_
  rintro e w3 ⟨rfl, hb⟩
  have T3 := Lib.hid (T2.out.below hb)
  clear hb T2 a0 a1 a2 a3 a4 a5 a6 a7 a8 a9 d0 d1 d2 d3 d4 d5
  go_upto_region 6 with fail
  go_region_held3 (fun u => (u.cell? ⟨W.heap.size + 1, 0, none⟩ = some (.int .i64 o.id) ∧ u.cell? ⟨W.heap.size + 1, 1, none⟩ = some (.int .i64 o.size) ∧ u.cell? ⟨W.heap.size + 1, 2, none⟩ = some (.int .i64 o.pick.place) ∧ u.cell? ⟨W.heap.size + 1, 3, none⟩ = some (.int .i64 o.pick.win.fr) ∧ u.cell? ⟨W.heap.size + 1, 4, none⟩ = some (.int .i64 o.pick.win.to) ∧ u.cell? ⟨W.heap.size + 1, 5, none⟩ = some (.int .i64 o.pick.serv) ∧
    u.cell? ⟨W.heap.size + 1, 6, none⟩ = some (.int .i64 o.drop.place) ∧ u.cell? ⟨W.heap.size + 1, 7, none⟩ = some (.int .i64 o.drop.win.fr) ∧ u.cell? ⟨W.heap.size + 1, 8, none⟩ = some (.int .i64 o.drop.win.to) ∧ u.cell? ⟨W.heap.size + 1, 9, none⟩ = some (.int .i64 o.drop.serv)) ∧
    (u.cell? ⟨W.heap.size + 1 + 1, 0, none⟩ = some (.int .i64 d.id) ∧ u.cell? ⟨W.heap.size + 1 + 1, 1, none⟩ = some (.int .i64 d.room) ∧ u.cell? ⟨W.heap.size + 1 + 1, 2, none⟩ = some (.int .i64 d.home) ∧ u.cell? ⟨W.heap.size + 1 + 1, 3, none⟩ = some (.int .i64 d.win.fr) ∧ u.cell? ⟨W.heap.size + 1 + 1, 4, none⟩ = some (.int .i64 d.win.to) ∧ u.cell? ⟨W.heap.size + 1 + 1, 5, none⟩ = some (.bool d.retired)) ∧ TB W q r m o d u)
    (first
      | exact T3.out.drew.cells
      | exact TB.cells (by assumption)
      | exact TB.cells (TB.drew (by assumption)))
    (first
      | (go_at_call 10; (with_reducible refine (gorder_tb W q r m o d _ (by first | assumption | exact T3.out.drew) v1 V1.out).mono ?_); rintro e w' ⟨rfl, hbx⟩)
      | (go_at_call 15; (with_reducible refine (rorder_tb W q r m o d _ (by first | assumption | exact T3.out.drew) v1 V1.out).mono ?_); rintro e w' ⟨rfl, hbx⟩)
      | (go_at_call 11; (with_reducible refine (gdriver_tb W q r m o d _ (by first | assumption | exact T3.out.drew) v2 V2.out).mono ?_); rintro e w' ⟨rfl, hbx⟩)
      | (go_at_call 16; (with_reducible refine (rdriver_tb W q r m o d _ (by first | assumption | exact T3.out.drew) v2 V2.out).mono ?_); rintro e w' ⟨rfl, hbx⟩)
      | (go_at_call 3; (with_reducible refine (runs_tb W q r m o d _ (by first | assumption | exact T3.out.drew)).mono ?_); rintro e w' ⟨rfl, hbx⟩))
  all_goals
    go_wp2_with fail
    go_ret
    exact ⟨rfl, (show TB W q r m o d _ by assumption).1⟩

#print axioms dealTells_walk
end Go.Proofs.Ytofkhpcigjcegaa.Deal
