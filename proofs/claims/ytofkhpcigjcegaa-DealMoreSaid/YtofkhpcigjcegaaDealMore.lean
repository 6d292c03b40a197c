/-
  DealMore walked.
-/
import Derived.Test.YtofkhpcigjcegaaDealRuns
import Derived.Test.YtofkhpcigjcegaaKeepDriver
import Derived.Test.YtofkhpcigjcegaaDealMath
namespace Go.Proofs.Ytofkhpcigjcegaa.Deal
open Go.ChangeShapes Go.WideShapes Go.ChangeAt Go.RowKit Go.Proofs.Ytofkhpcigjcegaa.Mem Go.Proofs.Ytofkhpcigjcegaa.GeoMath Go.Proofs.Ytofkhpcigjcegaa.FleetMath Go.Proofs.Ytofkhpcigjcegaa.Rec Go.Proofs.Ytofkhpcigjcegaa.Geo Go.Proofs.Ytofkhpcigjcegaa.Span Go.Proofs.Ytofkhpcigjcegaa.Keep
set_option linter.unusedVariables false

theorem optV_split {o : Option Int} : (∃ t, o = some t ∧ optV o = .tuple #[.int .i64 t, .bool true]) ∨ (o = none ∧ optV o = .tuple #[.int .i64 0, .bool false]) := by
  cases o with
  | none => exact .inr ⟨rfl, rfl⟩
  | some t => exact .inl ⟨t, rfl, rfl⟩
/-- what stays: the map, the order, the driver -/
def LB (W : World) (q : Option Addr) (m : Option Mp) (o : FleetMath.Ord) (go_ : Nat) (d : Drv) (gd : Nat) (u : World) : Prop :=
  Below W.heap.size W u ∧ MapP u 65 W.heap.size (.pointer q) m ∧ OBox u go_ o ∧ DBox u gd d
theorem LB.below {W u u' : World} {q : Option Addr} {m : Option Mp} {o : FleetMath.Ord} {d : Drv} {g gd : Nat} (h : LB W q m o g d gd u) (hb : Below u.heap.size u u') : LB W q m o g d gd u' :=
  ⟨h.1.trans (hb.mono h.1.size), h.2.1.keep hb, h.2.2.1.below hb, h.2.2.2.below hb⟩
/-- a driver in a block made behind w -/
def MD (w : World) (d : Drv) (g : Nat) (u : World) : Prop := Below w.heap.size w u ∧ w.heap.size ≤ g ∧ DBox u g d
theorem MD.new (w : World) (d : Drv) : MD w d w.heap.size (w.alloc (drvO d)) := ⟨(Below.refl _ _).alloc (Nat.le_refl _) _, Nat.le_refl _, drvO_new w d⟩
theorem MD.room {w u : World} {d : Drv} {g : Nat} (h : MD w d g u) (v : Int) : u.cell? ⟨g, 1, none⟩ = some (.int .i64 d.room) ∧ u.frozen? ⟨g, 1, none⟩ = false ∧ MD w ⟨d.id, v, d.home, d.win, d.retired⟩ g (u.setCell ⟨g, 1, none⟩ (.int .i64 v)) :=
  ⟨Blk.cell h.2.2 rfl, Blk.free h.2.2 1, h.1.setCell h.2.1 _, h.2.1, Blk.put h.2.2 1 _⟩
theorem MD.til {w u : World} {d : Drv} {g : Nat} (h : MD w d g u) (v : Int) : u.cell? ⟨g, 4, none⟩ = some (.int .i64 d.win.to) ∧ u.frozen? ⟨g, 4, none⟩ = false ∧ MD w ⟨d.id, d.room, d.home, ⟨d.win.fr, v⟩, d.retired⟩ g (u.setCell ⟨g, 4, none⟩ (.int .i64 v)) :=
  ⟨Blk.cell h.2.2 rfl, Blk.free h.2.2 4, h.1.setCell h.2.1 _, h.2.1, Blk.put h.2.2 4 _⟩
theorem MD.fr {w u : World} {d : Drv} {g : Nat} (h : MD w d g u) (v : Int) : u.cell? ⟨g, 3, none⟩ = some (.int .i64 d.win.fr) ∧ u.frozen? ⟨g, 3, none⟩ = false ∧ MD w ⟨d.id, d.room, d.home, ⟨v, d.win.to⟩, d.retired⟩ g (u.setCell ⟨g, 3, none⟩ (.int .i64 v)) :=
  ⟨Blk.cell h.2.2 rfl, Blk.free h.2.2 3, h.1.setCell h.2.1 _, h.2.1, Blk.put h.2.2 3 _⟩
theorem MD.below {w u u' : World} {d : Drv} {g : Nat} (h : MD w d g u) (hb : Below u.heap.size u u') : MD w d g u' := ⟨h.1.trans (hb.mono h.1.size), h.2.1, h.2.2.below hb⟩

set_option maxRecDepth 100000 in
set_option maxHeartbeats 4000000 in
theorem dealMore_walk (x : Wd) (ts : List Int) (ds : List Drv) (o : FleetMath.Ord) (at_ room longer : Int) (W : World) (hts : Ints W W.heap.size x.ts.a x.ts.n ts) (hds : Drvs W W.heap.size x.ds.a x.ds.n ds) (hdn : x.ds.n ≤ 1125899906842624) :
    Calls Try.prog 6 #[wdV x, ordV o, .int .i64 at_, .int .i64 room, .int .i64 longer] W fun e w' => e = .returned (.bool true) ∧ Below W.heap.size W w' := by
  have HTS := Lib.hid hts
  have HDS := Lib.hid hds
  clear hts hds
  obtain ⟨m, hm⟩ : ∃ m, mapOf x.n ts = m := ⟨_, rfl⟩
  have HM := Lib.hid hm
  clear hm
  have HB0 : Hid (Below W.heap.size W ((W.alloc (.cells #[.int .i64 x.n, x.ts.v, x.ds.v, x.os.v, x.pl.v] 47)).alloc (ordO o))) := ((Below.refl _ _).alloc (Nat.le_refl _) _).alloc (by simp) _
  have HW0 : Hid (WBox ((W.alloc (.cells #[.int .i64 x.n, x.ts.v, x.ds.v, x.os.v, x.pl.v] 47)).alloc (ordO o)) W.heap.size x) := (WBox.new W x).below ((Below.refl _ _).alloc (Nat.le_refl _) _)
  have HO0 : Hid (OBox ((W.alloc (.cells #[.int .i64 x.n, x.ts.v, x.ds.v, x.os.v, x.pl.v] 47)).alloc (ordO o)) (W.heap.size + 1) o) := by
    have := ordO_new (W.alloc (.cells #[.int .i64 x.n, x.ts.v, x.ds.v, x.os.v, x.pl.v] 47)) o
    rw [World.size_alloc] at this
    exact this
  go_enter Try.func6, Try.ntmps6
  go_wp2_with fail
  refine (kmaps_any x ts _ (by exact Reads.more (Reads.keep HTS.out HB0.out) HB0.out.size)).mono ?_
  rintro e w1 ⟨hb1, q, r, rfl, hq, _⟩
  have HB1 : Hid (Below W.heap.size W w1) := HB0.out.trans (hb1.mono HB0.out.size)
  have HQ1 : Hid (MapP w1 65 W.heap.size (.pointer q) m) := by
    have HM' := HM.out
    rw [HM'] at hq
    exact hq.lower HB0.out.size
  have HW1 := Lib.hid (HW0.out.below hb1)
  have HO1 := Lib.hid (HO0.out.below hb1)
  clear hb1 hq HB0 HW0 HO0 HTS HM
  obtain ⟨c0, c1, c2, c3, c4⟩ := HW1.out.cells
  go_wp2_with fail
  refine (kdriver_any x ds at_ w1 (Recs.more (Recs.keep HDS.out HB1.out) HB1.out.size) hdn).mono ?_
  rintro e w2 ⟨d, hin, rfl, hb2⟩
  have L2 : Hid (LB W q m o (W.heap.size + 1) d w2.heap.size (w2.alloc (drvO d))) := by
    have hb3 : Below w1.heap.size w1 (w2.alloc (drvO d)) := hb2.alloc hb2.size _
    exact ⟨HB1.out.trans (hb3.mono HB1.out.size), HQ1.out.keep hb3, HO1.out.below hb3, drvO_new w2 d⟩
  clear hb2 HB1 HQ1 HW1 HO1 HDS c0 c1 c2 c3 c4 hin
  obtain ⟨v1, r1, h1⟩ : ∃ v r, optV (alone m d o) = .tuple #[.int .i64 v, .bool r] := by rcases optV_split (o := alone m d o) with ⟨t, _, h⟩ | ⟨_, h⟩ <;> exact ⟨_, _, h⟩
  have V1 := Lib.hid h1
  clear h1
  obtain ⟨gd, hgd⟩ : ∃ g, w2.heap.size = g := ⟨_, rfl⟩
  rw [hgd] at L2
  obtain ⟨a0, a1, a2, a3, a4, a5, a6, a7, a8, a9⟩ := L2.out.2.2.1.cells
  obtain ⟨d0, d1, d2, d3, d4, d5⟩ := L2.out.2.2.2.cells
  go_wp2_with fail
  refine (galone_val W.heap.size _ m _ (by exact L2.out.2.1) d o v1 r1 V1.out).mono ?_
  rintro e w3 ⟨rfl, hb⟩
  have L3 := Lib.hid (L2.out.below hb)
  clear hb L2 a0 a1 a2 a3 a4 a5 a6 a7 a8 a9 d0 d1 d2 d3 d4 d5 hgd
  obtain ⟨d0, d1, d2, d3, d4, d5⟩ := L3.out.2.2.2.cells
  have M3 := Lib.hid (MD.new w3 d)
  have y1 : (w3.alloc (drvO d)).cell? ⟨gd, 1, none⟩ = some (.int .i64 d.room) := (L3.out.2.2.2.alloc _).cells.2.1
  go_upto_region 7 with fail
  go_cut [46] (fun b wx => wx = w3.alloc (drvO d) ∧ ∃ tb : Bool, b = .bool tb ∧ Hid (tb = true → d.room < room ∧ room ≤ 1000))
  case first =>
    by_cases h1 : d.room < room
    · by_cases h2 : room ≤ 1000
      · go_wp2_with fail
        go_meet
        exact ⟨rfl, _, rfl, fun _ => ⟨h1, h2⟩⟩
      · go_wp2_with fail
        go_meet
        exact ⟨rfl, false, by first | rfl | simp only [decide_false] | simp [h2], fun h => by cases h⟩
    · go_wp2_with fail
      go_meet
      exact ⟨rfl, false, rfl, fun h => by cases h⟩
  case rest =>
  obtain ⟨rfl, tb, rfl, HTB⟩ := hcut
  go_upto_if 46 with fail
  go_cut [] (fun wx => Hid (∃ rm, (rm = d.room ∨ (d.room < rm ∧ rm ≤ 1000)) ∧ MD w3 ⟨d.id, rm, d.home, d.win, d.retired⟩ w3.heap.size wx))
  case first =>
    cases tb with
    | true =>
      go_wp2_with fail
      go_meet
      exact ⟨room, .inr (HTB.out (by trivial)), MD.new w3 ⟨d.id, room, d.home, d.win, d.retired⟩⟩
    | false =>
      go_wp2_with fail
      go_meet
      exact ⟨d.room, .inl rfl, M3.out⟩
  case rest =>
    obtain ⟨rm, hrm, hmd⟩ := hcut.out
    have M4 := Lib.hid hmd
    have HRM := Lib.hid hrm
    have y4 : wc.cell? ⟨gd, 4, none⟩ = some (.int .i64 d.win.to) := (L3.out.2.2.2.below hmd.1).cells.2.2.2.2.1
    obtain ⟨p4, f4, M4r⟩ := hmd.til longer
    have M4R := Lib.hid M4r
    clear M4r hrm hmd hcut M3 y1 d0 d1 d2 d3 d4 d5
    simp only at p4
    obtain ⟨wy, hwy⟩ : ∃ wy, wc = wy := ⟨_, rfl⟩
    subst hwy
    go_upto_region 9 with fail
    go_cut [57] (fun b wx => wx = wc ∧ ∃ tb : Bool, b = .bool tb ∧ Hid (tb = true → d.win.to < longer ∧ longer ≤ 1000000))
    case first =>
      by_cases h1 : d.win.to < longer
      · by_cases h2 : longer ≤ 1000000
        · go_wp2_with fail
          go_meet
          exact ⟨rfl, _, rfl, fun _ => ⟨h1, h2⟩⟩
        · go_wp2_with fail
          go_meet
          exact ⟨rfl, false, by first | rfl | simp only [decide_false] | simp [h2], fun h => by cases h⟩
      · go_wp2_with fail
        go_meet
        exact ⟨rfl, false, rfl, fun h => by cases h⟩
    case rest =>
    obtain ⟨rfl, tb2, rfl, HTB2⟩ := hcut
    go_upto_if 57 with fail
    go_cut [] (fun wx => Hid (∃ tl, (tl = d.win.to ∨ (d.win.to < tl ∧ tl ≤ 1000000)) ∧ MD w3 ⟨d.id, rm, d.home, ⟨d.win.fr, tl⟩, d.retired⟩ w3.heap.size wx))
    case first =>
      cases tb2 with
      | true =>
        go_wp2_with fail
        go_meet
        exact ⟨longer, .inr (HTB2.out (by trivial)), M4R.out⟩
      | false =>
        go_wp2_with fail
        go_meet
        exact ⟨d.win.to, .inl rfl, M4.out⟩
    case rest =>
      obtain ⟨tl, htl, hmd⟩ := hcut.out
      have L5 := Lib.hid (L3.out.below hmd.1)
      obtain ⟨e0, e1, e2, e3, e4, e5⟩ := hmd.2.2.cells
      simp only at e0 e1 e2 e3 e4 e5
      obtain ⟨a0, a1, a2, a3, a4, a5, a6, a7, a8, a9⟩ := L5.out.2.2.1.cells
      clear hcut M4 M4R p4 f4 y4 hmd L3
      have hrm := HRM.out
      rcases optV_split (o := alone m d o) with ⟨t, ht, hv⟩ | ⟨ht, hv⟩
      · have hv1 := V1.out
        rw [hv] at hv1
        injection hv1 with hv1
        have hl := congrArg Array.toList hv1
        simp only [List.cons.injEq, Value.int.injEq, Value.bool.injEq, true_and, and_true] at hl
        obtain ⟨rfl, rfl⟩ := hl
        have V2 : Hid (optV (alone m ⟨d.id, rm, d.home, ⟨d.win.fr, tl⟩, d.retired⟩ o) = .tuple #[.int .i64 t, .bool true]) := by
          have := alone_more ht hrm htl
          show optV _ = _
          rw [this]
          rfl
        clear ht hv hv1 hrm htl HRM V1
        go_wp2_with fail
        refine (galone_val W.heap.size _ m _ (by exact L5.out.2.1) ⟨d.id, rm, d.home, ⟨d.win.fr, tl⟩, d.retired⟩ o t true V2.out).mono ?_
        rintro e w4 ⟨rfl, hb⟩
        have L6 := Lib.hid (L5.out.below hb)
        clear hb L5 a0 a1 a2 a3 a4 a5 a6 a7 a8 a9 e0 e1 e2 e3 e4 e5
        go_wp2_with fail
        refine (runs_any _).mono ?_
        rintro e w5 ⟨rfl, hb⟩
        have L7 := Lib.hid (L6.out.below hb)
        clear hb L6
        go_wp2_with fail
        go_ret
        exact ⟨rfl, L7.out.1⟩
      · have hv1 := V1.out
        rw [hv] at hv1
        injection hv1 with hv1
        have hl := congrArg Array.toList hv1
        simp only [List.cons.injEq, Value.int.injEq, Value.bool.injEq, true_and, and_true] at hl
        obtain ⟨rfl, rfl⟩ := hl
        obtain ⟨v2, r2, h2⟩ : ∃ v r, optV (alone m ⟨d.id, rm, d.home, ⟨d.win.fr, tl⟩, d.retired⟩ o) = .tuple #[.int .i64 v, .bool r] := by rcases optV_split (o := alone m ⟨d.id, rm, d.home, ⟨d.win.fr, tl⟩, d.retired⟩ o) with ⟨t, _, h⟩ | ⟨_, h⟩ <;> exact ⟨_, _, h⟩
        have V2 := Lib.hid h2
        clear ht hv hv1 hrm htl HRM V1 h2
        go_wp2_with fail
        refine (galone_val W.heap.size _ m _ (by exact L5.out.2.1) ⟨d.id, rm, d.home, ⟨d.win.fr, tl⟩, d.retired⟩ o v2 r2 V2.out).mono ?_
        rintro e w4 ⟨rfl, hb⟩
        have L6 := Lib.hid (L5.out.below hb)
        clear hb L5 a0 a1 a2 a3 a4 a5 a6 a7 a8 a9 e0 e1 e2 e3 e4 e5
        go_wp2_with fail
        refine (runs_any _).mono ?_
        rintro e w5 ⟨rfl, hb⟩
        have L7 := Lib.hid (L6.out.below hb)
        clear hb L6
        go_wp2_with fail
        go_ret
        exact ⟨rfl, L7.out.1⟩

#print axioms dealMore_walk
end Go.Proofs.Ytofkhpcigjcegaa.Deal
