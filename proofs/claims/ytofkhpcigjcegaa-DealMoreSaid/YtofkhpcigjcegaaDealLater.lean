/-
  DealLater walked.
-/
import Derived.Test.YtofkhpcigjcegaaDealMore
namespace Go.Proofs.Ytofkhpcigjcegaa.Deal
open Go.ChangeShapes Go.WideShapes Go.ChangeAt Go.RowKit Go.Proofs.Ytofkhpcigjcegaa.Mem Go.Proofs.Ytofkhpcigjcegaa.GeoMath Go.Proofs.Ytofkhpcigjcegaa.FleetMath Go.Proofs.Ytofkhpcigjcegaa.Rec Go.Proofs.Ytofkhpcigjcegaa.Geo Go.Proofs.Ytofkhpcigjcegaa.Span Go.Proofs.Ytofkhpcigjcegaa.Keep
set_option linter.unusedVariables false

/-- an order in a block made behind w -/
def MO (w : World) (o : FleetMath.Ord) (g : Nat) (u : World) : Prop := Below w.heap.size w u ∧ w.heap.size ≤ g ∧ OBox u g o
theorem MO.new (w : World) (o : FleetMath.Ord) : MO w o w.heap.size (w.alloc (ordO o)) := ⟨(Below.refl _ _).alloc (Nat.le_refl _) _, Nat.le_refl _, ordO_new w o⟩
theorem map_times {u : World} {t : TypeId} {base : Nat} {pv : Value} {m : Option Mp} (h : MapP u t base pv m) : ∀ m', m = some m' → ∀ a b, 0 ≤ time m' a b := by
  rintro m' rfl a b
  rcases h with ⟨_, h⟩ | ⟨_, n, l, _, h, _, _, _, hm⟩
  · cases h
  · injection h with h
    subst h
    exact (time_bounds hm a b).1
/-- what is told of one that begins later -/
def NoEarlier (t : Int) (can : Bool) (u : Int) (may : Bool) : Prop := may = true → can = true ∧ t ≤ u
theorem later_of {a b : Option Int} {t u : Int} {can may : Bool} (h1 : optV a = .tuple #[.int .i64 t, .bool can]) (h2 : optV b = .tuple #[.int .i64 u, .bool may]) (h : ∀ y, b = some y → ∃ x, a = some x ∧ x ≤ y) : NoEarlier t can u may := by
  intro hm
  subst hm
  cases b with
  | none =>
    injection h2 with h2
    have := congrArg Array.toList h2
    simp at this
  | some y =>
    obtain ⟨x, rfl, hx⟩ := h y rfl
    injection h1 with h1
    injection h2 with h2
    have e1 := congrArg Array.toList h1
    have e2 := congrArg Array.toList h2
    simp at e1 e2
    exact ⟨e1.2, by omega⟩

set_option maxRecDepth 100000 in
set_option maxHeartbeats 4000000 in
theorem dealLater_walk (x : Wd) (ts : List Int) (ds : List Drv) (o : FleetMath.Ord) (at_ later from_ : Int) (W : World) (hts : Ints W W.heap.size x.ts.a x.ts.n ts) (hds : Drvs W W.heap.size x.ds.a x.ds.n ds) (hdn : x.ds.n ≤ 1125899906842624) :
    Calls Try.prog 7 #[wdV x, ordV o, .int .i64 at_, .int .i64 later, .int .i64 from_] W fun e w' => e = .returned (.bool true) ∧ Below W.heap.size W w' := by
  have HTS := Lib.hid hts
  have HDS := Lib.hid hds
  clear hts hds
  obtain ⟨m, hm⟩ : ∃ m, mapOf x.n ts = m := ⟨_, rfl⟩
  have HM := Lib.hid hm
  clear hm
  have HB0 : Hid (Below W.heap.size W ((W.alloc (.cells #[.int .i64 x.n, x.ts.v, x.ds.v, x.os.v, x.pl.v] 47)).alloc (ordO o))) := ((Below.refl _ _).alloc (Nat.le_refl _) _).alloc (by simp) _
  have HW0 : Hid (WBox ((W.alloc (.cells #[.int .i64 x.n, x.ts.v, x.ds.v, x.os.v, x.pl.v] 47)).alloc (ordO o)) W.heap.size x) := (WBox.new W x).below ((Below.refl _ _).alloc (Nat.le_refl _) _)
  have HO0 : Hid (OBox ((W.alloc (.cells #[.int .i64 x.n, x.ts.v, x.ds.v, x.os.v, x.pl.v] 47)).alloc (ordO o)) (W.heap.size + 1) o) := by
    have := ordO_new (W.alloc (.cells #[.int .i64 x.n, x.ts.v, x.ds.v, x.os.v, x.pl.v] 47)) o
    rw [World.size_alloc] at this
    exact this
  go_enter Try.func7, Try.ntmps7
  go_wp2_with fail
  refine (kmaps_any x ts _ (by exact Reads.more (Reads.keep HTS.out HB0.out) HB0.out.size)).mono ?_
  rintro e w1 ⟨hb1, q, r, rfl, hq, _⟩
  have HB1 : Hid (Below W.heap.size W w1) := HB0.out.trans (hb1.mono HB0.out.size)
  have HQ1 : Hid (MapP w1 65 W.heap.size (.pointer q) m) := by
    have HM' := HM.out
    rw [HM'] at hq
    exact hq.lower HB0.out.size
  have HW1 := Lib.hid (HW0.out.below hb1)
  have HO1 := Lib.hid (HO0.out.below hb1)
  clear hb1 hq HB0 HW0 HO0 HTS HM
  obtain ⟨c0, c1, c2, c3, c4⟩ := HW1.out.cells
  go_wp2_with fail
  refine (kdriver_any x ds at_ w1 (Recs.more (Recs.keep HDS.out HB1.out) HB1.out.size) hdn).mono ?_
  rintro e w2 ⟨d, hin, rfl, hb2⟩
  have L2 : Hid (LB W q m o (W.heap.size + 1) d w2.heap.size (w2.alloc (drvO d))) := by
    have hb3 : Below w1.heap.size w1 (w2.alloc (drvO d)) := hb2.alloc hb2.size _
    exact ⟨HB1.out.trans (hb3.mono HB1.out.size), HQ1.out.keep hb3, HO1.out.below hb3, drvO_new w2 d⟩
  clear hb2 HB1 HQ1 HW1 HO1 HDS c0 c1 c2 c3 c4 hin
  obtain ⟨v1, r1, h1⟩ : ∃ v r, optV (alone m d o) = .tuple #[.int .i64 v, .bool r] := by rcases optV_split (o := alone m d o) with ⟨t, _, h⟩ | ⟨_, h⟩ <;> exact ⟨_, _, h⟩
  have V1 := Lib.hid h1
  clear h1
  obtain ⟨gd, hgd⟩ : ∃ g, w2.heap.size = g := ⟨_, rfl⟩
  rw [hgd] at L2
  obtain ⟨a0, a1, a2, a3, a4, a5, a6, a7, a8, a9⟩ := L2.out.2.2.1.cells
  obtain ⟨d0, d1, d2, d3, d4, d5⟩ := L2.out.2.2.2.cells
  go_wp2_with fail
  refine (galone_val W.heap.size _ m _ (by exact L2.out.2.1) d o v1 r1 V1.out).mono ?_
  rintro e w3 ⟨rfl, hb⟩
  have L3 := Lib.hid (L2.out.below hb)
  clear hb L2 a0 a1 a2 a3 a4 a5 a6 a7 a8 a9 d0 d1 d2 d3 d4 d5 hgd
  obtain ⟨d0, d1, d2, d3, d4, d5⟩ := L3.out.2.2.2.cells
  obtain ⟨k1, hk1⟩ : ∃ v, drvE m d = v := ⟨_, rfl⟩
  obtain ⟨k2, hk2⟩ : ∃ v, ordE m o = v := ⟨_, rfl⟩
  have K1 := Lib.hid hk1
  have K2 := Lib.hid hk2
  have HNO : Hid (k1 ≠ 0 ∨ k2 ≠ 0 → v1 = 0 ∧ r1 = false) := fun h => by
    have hn := alone_none (m := m) (d := d) (o := o) (by rw [hk1, hk2]; exact h)
    have hv := V1.out
    rw [hn] at hv
    injection hv with hv
    have := congrArg Array.toList hv
    simp at this
    exact ⟨this.1.symm, this.2⟩
  clear hk1 hk2
  go_wp2_with fail
  refine (gdriver_val W.heap.size _ m _ (by exact L3.out.2.1) d k1 K1.out).mono ?_
  rintro e w4 ⟨rfl, hb⟩
  have L4 := Lib.hid (L3.out.below hb)
  clear hb L3 d0 d1 d2 d3 d4 d5
  by_cases hk1 : k1 = 0
  case neg =>
    obtain ⟨rfl, rfl⟩ := HNO.out (.inl hk1)
    have e1 : (k1 == 0) = false := by simpa using hk1
    have e2 : (k1 != 0) = true := by simpa using hk1
    clear hk1 HNO
    go_wp2_with fail
    refine (runs_any _).mono ?_
    rintro e w5 ⟨rfl, hb⟩
    have L5 := Lib.hid (L4.out.below hb)
    clear hb L4
    go_wp2_with fail
    go_ret
    exact ⟨rfl, L5.out.1⟩
  subst hk1
  obtain ⟨a0, a1, a2, a3, a4, a5, a6, a7, a8, a9⟩ := L4.out.2.2.1.cells
  go_wp2_with fail
  refine (gorder_val W.heap.size _ m _ (by exact L4.out.2.1) o k2 K2.out).mono ?_
  rintro e w5 ⟨rfl, hb⟩
  have L5 := Lib.hid (L4.out.below hb)
  clear hb L4 a0 a1 a2 a3 a4 a5 a6 a7 a8 a9
  by_cases hk2 : k2 = 0
  case neg =>
    obtain ⟨rfl, rfl⟩ := HNO.out (.inr hk2)
    have e1 : (k2 == 0) = false := by simpa using hk2
    have e2 : (k2 != 0) = true := by simpa using hk2
    clear hk2 HNO
    go_wp2_with fail
    refine (runs_any _).mono ?_
    rintro e w6 ⟨rfl, hb⟩
    have L6 := Lib.hid (L5.out.below hb)
    clear hb L5
    go_wp2_with fail
    go_ret
    exact ⟨rfl, L6.out.1⟩
  subst hk2
  clear HNO
  obtain ⟨d0, d1, d2, d3, d4, d5⟩ := L5.out.2.2.2.cells
  have M5 := Lib.hid (MD.new w5 d)
  have y3 : (w5.alloc (drvO d)).cell? ⟨gd, 3, none⟩ = some (.int .i64 d.win.fr) := (L5.out.2.2.2.alloc _).cells.2.2.2.1
  have y4 : (w5.alloc (drvO d)).cell? ⟨gd, 4, none⟩ = some (.int .i64 d.win.to) := (L5.out.2.2.2.alloc _).cells.2.2.2.2.1
  go_upto_region 9 with fail
  go_cut [72] (fun b wx => wx = w5.alloc (drvO d) ∧ ∃ tb : Bool, b = .bool tb ∧ Hid (tb = true → d.win.fr < later ∧ later ≤ d.win.to))
  case first =>
    by_cases h1 : d.win.fr < later
    · by_cases h2 : later ≤ d.win.to
      · go_wp2_with fail
        go_meet
        exact ⟨rfl, _, rfl, fun _ => ⟨h1, h2⟩⟩
      · go_wp2_with fail
        go_meet
        exact ⟨rfl, false, by first | rfl | simp only [decide_false] | simp [h2], fun h => by cases h⟩
    · go_wp2_with fail
      go_meet
      exact ⟨rfl, false, rfl, fun h => by cases h⟩
  case rest =>
  obtain ⟨rfl, tb, rfl, HTB⟩ := hcut
  go_upto_if 72 with fail
  go_cut [] (fun wx => Hid (∃ fr, (fr = d.win.fr ∨ (d.win.fr < fr ∧ fr ≤ d.win.to)) ∧ MD w5 ⟨d.id, d.room, d.home, ⟨fr, d.win.to⟩, d.retired⟩ w5.heap.size wx))
  case first =>
    cases tb with
    | true =>
      go_wp2_with fail
      go_meet
      exact ⟨later, .inr (HTB.out (by trivial)), MD.new w5 ⟨d.id, d.room, d.home, ⟨later, d.win.to⟩, d.retired⟩⟩
    | false =>
      go_wp2_with fail
      go_meet
      exact ⟨d.win.fr, .inl rfl, M5.out⟩
  case rest =>
  obtain ⟨fr, hfr, hmd⟩ := hcut.out
  have HFR := Lib.hid hfr
  have L6 := Lib.hid (L5.out.below hmd.1)
  obtain ⟨e0, e1, e2, e3, e4, e5⟩ := hmd.2.2.cells
  simp only at e0 e1 e2 e3 e4 e5
  obtain ⟨a0, a1, a2, a3, a4, a5, a6, a7, a8, a9⟩ := L6.out.2.2.1.cells
  clear hcut hmd hfr L5 M5 y3 y4 d0 d1 d2 d3 d4 d5
  obtain ⟨v2, r2, h2⟩ : ∃ v r, optV (alone m ⟨d.id, d.room, d.home, ⟨fr, d.win.to⟩, d.retired⟩ o) = .tuple #[.int .i64 v, .bool r] := by rcases optV_split (o := alone m ⟨d.id, d.room, d.home, ⟨fr, d.win.to⟩, d.retired⟩ o) with ⟨t, _, h⟩ | ⟨_, h⟩ <;> exact ⟨_, _, h⟩
  have V2 := Lib.hid h2
  have N2 : Hid (NoEarlier v1 r1 v2 r2) := later_of V1.out h2 fun y hy => alone_slow K1.out HFR.out hy
  clear h2
  go_wp2_with fail
  refine (galone_val W.heap.size _ m _ (by exact L6.out.2.1) ⟨d.id, d.room, d.home, ⟨fr, d.win.to⟩, d.retired⟩ o v2 r2 V2.out).mono ?_
  rintro e w6 ⟨rfl, hb⟩
  have L7 := Lib.hid (L6.out.below hb)
  clear hb L6 a0 a1 a2 a3 a4 a5 a6 a7 a8 a9 e0 e1 e2 e3 e4 e5
  obtain ⟨a0, a1, a2, a3, a4, a5, a6, a7, a8, a9⟩ := L7.out.2.2.1.cells
  have M7 := Lib.hid (MO.new w6 o)
  have y3 : (w6.alloc (ordO o)).cell? ⟨W.heap.size + 1, 3, none⟩ = some (.int .i64 o.pick.win.fr) := (L7.out.2.2.1.alloc _).cells.2.2.2.1
  have y4 : (w6.alloc (ordO o)).cell? ⟨W.heap.size + 1, 4, none⟩ = some (.int .i64 o.pick.win.to) := (L7.out.2.2.1.alloc _).cells.2.2.2.2.1
  go_upto_region 13 with fail
  go_cut [97] (fun b wx => wx = w6.alloc (ordO o) ∧ ∃ tb : Bool, b = .bool tb ∧ Hid (tb = true → o.pick.win.fr < from_ ∧ from_ ≤ o.pick.win.to))
  case first =>
    by_cases h1 : o.pick.win.fr < from_
    · by_cases h2 : from_ ≤ o.pick.win.to
      · go_wp2_with fail
        go_meet
        exact ⟨rfl, _, rfl, fun _ => ⟨h1, h2⟩⟩
      · go_wp2_with fail
        go_meet
        exact ⟨rfl, false, by first | rfl | simp only [decide_false] | simp [h2], fun h => by cases h⟩
    · go_wp2_with fail
      go_meet
      exact ⟨rfl, false, rfl, fun h => by cases h⟩
  case rest =>
  obtain ⟨rfl, tb2, rfl, HTB2⟩ := hcut
  go_upto_if 97 with fail
  go_cut [] (fun wx => Hid (∃ fr, (fr = o.pick.win.fr ∨ (o.pick.win.fr < fr ∧ fr ≤ o.pick.win.to)) ∧ MO w6 ⟨o.id, o.size, ⟨o.pick.place, ⟨fr, o.pick.win.to⟩, o.pick.serv⟩, o.drop⟩ w6.heap.size wx))
  case first =>
    cases tb2 with
    | true =>
      go_wp2_with fail
      go_meet
      exact ⟨from_, .inr (HTB2.out (by trivial)), MO.new w6 ⟨o.id, o.size, ⟨o.pick.place, ⟨from_, o.pick.win.to⟩, o.pick.serv⟩, o.drop⟩⟩
    | false =>
      go_wp2_with fail
      go_meet
      exact ⟨o.pick.win.fr, .inl rfl, M7.out⟩
  case rest =>
  obtain ⟨f2, hf2, hmo⟩ := hcut.out
  have HF2 := Lib.hid hf2
  have L8 := Lib.hid (L7.out.below hmo.1)
  clear a0 a1 a2 a3 a4 a5 a6 a7 a8 a9
  obtain ⟨a0, a1, a2, a3, a4, a5, a6, a7, a8, a9⟩ := hmo.2.2.cells
  simp only at a0 a1 a2 a3 a4 a5 a6 a7 a8 a9
  obtain ⟨e0, e1, e2, e3, e4, e5⟩ := L8.out.2.2.2.cells
  clear hcut hmo hf2 L7 M7 y3 y4
  obtain ⟨v3, r3, h3⟩ : ∃ v r, optV (alone m d ⟨o.id, o.size, ⟨o.pick.place, ⟨f2, o.pick.win.to⟩, o.pick.serv⟩, o.drop⟩) = .tuple #[.int .i64 v, .bool r] := by rcases optV_split (o := alone m d ⟨o.id, o.size, ⟨o.pick.place, ⟨f2, o.pick.win.to⟩, o.pick.serv⟩, o.drop⟩) with ⟨t, _, h⟩ | ⟨_, h⟩ <;> exact ⟨_, _, h⟩
  have V3 := Lib.hid h3
  have N3 : Hid (NoEarlier v1 r1 v3 r3) := later_of V1.out h3 fun y hy => alone_next K2.out HF2.out hy
  clear h3
  go_wp2_with fail
  refine (galone_val W.heap.size _ m _ (by exact L8.out.2.1) d ⟨o.id, o.size, ⟨o.pick.place, ⟨f2, o.pick.win.to⟩, o.pick.serv⟩, o.drop⟩ v3 r3 V3.out).mono ?_
  rintro e w7 ⟨rfl, hb⟩
  have L9 := Lib.hid (L8.out.below hb)
  clear hb L8 a0 a1 a2 a3 a4 a5 a6 a7 a8 a9 e0 e1 e2 e3 e4 e5
  obtain ⟨a0, a1, a2, a3, a4, a5, a6, a7, a8, a9⟩ := L9.out.2.2.1.cells
  obtain ⟨e0, e1, e2, e3, e4, e5⟩ := L9.out.2.2.2.cells
  have HBD : Hid (r1 = true → d.win.fr + o.pick.serv + o.drop.serv ≤ v1 ∧ v1 ≤ d.win.to) := fun hr => by
    rcases optV_split (o := alone m d o) with ⟨t, ht, hv⟩ | ⟨_, hv⟩
    · have hv1 := V1.out
      rw [hv] at hv1
      injection hv1 with hv1
      have := congrArg Array.toList hv1
      simp at this
      rw [← this.1]
      exact alone_bounds (map_times L9.out.2.1) ht
    · have hv1 := V1.out
      rw [hv] at hv1
      injection hv1 with hv1
      have := congrArg Array.toList hv1
      simp [hr] at this
  obtain ⟨_, _, kd⟩ := drvE_ok.1 K1.out
  obtain ⟨_, _, ko⟩ := ordE_ok.1 K2.out
  have hw := right_iff.1 kd.win
  have hps := ko.pickS
  have hds := ko.dropS
  clear kd ko
  obtain ⟨hw1, hw2, hw3⟩ := hw
  obtain ⟨hp1, hp2⟩ := hps
  obtain ⟨hd1, hd2⟩ := hds
  cases r1 with
  | false =>
    have g2 : r2 = false := by
      cases r2 with
      | false => rfl
      | true => have := (N2.out rfl).1; cases this
    have g3 : r3 = false := by
      cases r3 with
      | false => rfl
      | true => have := (N3.out rfl).1; cases this
    subst g2
    subst g3
    clear N2 N3 HBD
    go_wp2_with fail
    refine (runs_any _).mono ?_
    rintro e w8 ⟨rfl, hb⟩
    have LA := Lib.hid (L9.out.below hb)
    clear hb L9 a0 a1 a2 a3 a4 a5 a6 a7 a8 a9 e0 e1 e2 e3 e4 e5
    go_wp2_with fail
    go_ret
    exact ⟨rfl, LA.out.1⟩
  | true =>
    obtain ⟨hb1, hb2⟩ := HBD.out rfl
    clear HBD
    cases r2 with
    | false =>
      cases r3 with
      | false =>
        clear N2 N3
        go_wp2_with fail
        refine (runs_any _).mono ?_
        rintro e w8 ⟨rfl, hb⟩
        have LA := Lib.hid (L9.out.below hb)
        clear hb L9 a0 a1 a2 a3 a4 a5 a6 a7 a8 a9 e0 e1 e2 e3 e4 e5
        go_wp2_with fail
        go_ret
        exact ⟨rfl, LA.out.1⟩
      | true =>
        have h3 := (N3.out rfl).2
        clear N2 N3
        go_wp2_with fail
        refine (runs_any _).mono ?_
        rintro e w8 ⟨rfl, hb⟩
        have LA := Lib.hid (L9.out.below hb)
        clear hb L9 a0 a1 a2 a3 a4 a5 a6 a7 a8 a9 e0 e1 e2 e3 e4 e5
        go_wp2_with fail
        go_ret
        exact ⟨rfl, LA.out.1⟩
    | true =>
      have h2 := (N2.out rfl).2
      cases r3 with
      | false =>
        clear N2 N3
        go_wp2_with fail
        refine (runs_any _).mono ?_
        rintro e w8 ⟨rfl, hb⟩
        have LA := Lib.hid (L9.out.below hb)
        clear hb L9 a0 a1 a2 a3 a4 a5 a6 a7 a8 a9 e0 e1 e2 e3 e4 e5
        go_wp2_with fail
        go_ret
        exact ⟨rfl, LA.out.1⟩
      | true =>
        have h3 := (N3.out rfl).2
        clear N2 N3
        go_wp2_with fail
        refine (runs_any _).mono ?_
        rintro e w8 ⟨rfl, hb⟩
        have LA := Lib.hid (L9.out.below hb)
        clear hb L9 a0 a1 a2 a3 a4 a5 a6 a7 a8 a9 e0 e1 e2 e3 e4 e5
        go_wp2_with fail
        go_ret
        exact ⟨rfl, LA.out.1⟩

#print axioms dealLater_walk
end Go.Proofs.Ytofkhpcigjcegaa.Deal
