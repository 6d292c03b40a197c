/-
  The program's route, walked: a tour's visit.
-/
import Derived.Test.YtobcmlcmbnldlaaRoutePSmall
import Derived.Test.YtobcmlcmbnldlaaWords
import Derived.Test.YtobcmlcmbnldlaaGeoPSmall
import Derived.Test.YtobcmlcmbnldlaaSpanAll
namespace Go.Proofs.Ytobcmlcmbnldlaa.Route
open Go.ChangeShapes Go.WideShapes Go.ChangeAt Go.RowKit Go.Proofs.Ytobcmlcmbnldlaa.Mem Go.Proofs.Ytobcmlcmbnldlaa.GeoMath Go.Proofs.Ytobcmlcmbnldlaa.FleetMath Go.Proofs.Ytobcmlcmbnldlaa.Rec Go.Proofs.Ytobcmlcmbnldlaa.Geo Go.Proofs.Ytobcmlcmbnldlaa.Span Go.Proofs.Ytobcmlcmbnldlaa.Deal

/-- a visit in a block -/
def VBox (u : World) (g : Nat) (x : Vis) : Prop := Blk u g 71 [.int .i64 x.stop.ord, .bool x.stop.drop, .int .i64 x.arrive, .int .i64 x.start, .int .i64 x.leave, .int .i64 x.load]
theorem VBox.cells {u : World} {g : Nat} {x : Vis} (h : VBox u g x) : u.cell? ⟨g, 0, none⟩ = some (.int .i64 x.stop.ord) ∧ u.cell? ⟨g, 1, none⟩ = some (.bool x.stop.drop) ∧ u.cell? ⟨g, 2, none⟩ = some (.int .i64 x.arrive) ∧ u.cell? ⟨g, 3, none⟩ = some (.int .i64 x.start) ∧ u.cell? ⟨g, 4, none⟩ = some (.int .i64 x.leave) ∧ u.cell? ⟨g, 5, none⟩ = some (.int .i64 x.load) :=
  ⟨Blk.cell h rfl, Blk.cell h rfl, Blk.cell h rfl, Blk.cell h rfl, Blk.cell h rfl, Blk.cell h rfl⟩
theorem VBox.below {u u' : World} {g : Nat} {x : Vis} (h : VBox u g x) (hb : Below u.heap.size u u') : VBox u' g x := Blk.below h hb (Blk.lt h)
/-- a visit written into a block -/
abbrev putV (u : World) (g : Nat) (x : Vis) : World := ((((((u.setCell ⟨g, 0, none⟩ (.int .i64 x.stop.ord)).setCell ⟨g, 1, none⟩ (.bool x.stop.drop)).setCell ⟨g, 2, none⟩ (.int .i64 x.arrive)).setCell ⟨g, 3, none⟩ (.int .i64 x.start)).setCell ⟨g, 4, none⟩ (.int .i64 x.leave)).setCell ⟨g, 5, none⟩ (.int .i64 x.load))
theorem putV_box {u : World} {g : Nat} {y : Vis} (h : VBox u g y) (x : Vis) : VBox (putV u g x) g x := by
  unfold VBox at h ⊢
  exact ((((((h.put 0 (.int .i64 x.stop.ord)).put 1 (.bool x.stop.drop)).put 2 (.int .i64 x.arrive)).put 3 (.int .i64 x.start)).put 4 (.int .i64 x.leave)).put 5 (.int .i64 x.load))
theorem putV_below {B : Nat} {w u : World} {g : Nat} (h : Below B w u) (hg : B ≤ g) (x : Vis) : Below B w (putV u g x) := ((((((h.setCell hg _).setCell hg _).setCell hg _).setCell hg _).setCell hg _).setCell hg _)
/-- no visit -/
abbrev vis0 : Vis := ⟨⟨0, false⟩, 0, 0, 0, 0⟩

/-- a driver on its way, in a block -/
def TBox (u : World) (g : Nat) (q : Option Addr) (d : Drv) (A : Option Addr) (n c : Nat) (st : St) : Prop := Blk u g 93 [.pointer q, .int .i64 d.id, .int .i64 d.room, .int .i64 d.home, .int .i64 d.win.fr, .int .i64 d.win.to, .bool d.retired, .slice A n c, .int .i64 st.at_, .int .i64 st.left, .int .i64 st.load]
theorem TBox.cells {u : World} {g : Nat} {q : Option Addr} {d : Drv} {A : Option Addr} {n c : Nat} {st : St} (h : TBox u g q d A n c st) : u.cell? ⟨g, 0, none⟩ = some (.pointer q) ∧ u.cell? ⟨g, 1, none⟩ = some (.int .i64 d.id) ∧ u.cell? ⟨g, 2, none⟩ = some (.int .i64 d.room) ∧ u.cell? ⟨g, 3, none⟩ = some (.int .i64 d.home) ∧ u.cell? ⟨g, 4, none⟩ = some (.int .i64 d.win.fr) ∧ u.cell? ⟨g, 5, none⟩ = some (.int .i64 d.win.to) ∧ u.cell? ⟨g, 6, none⟩ = some (.bool d.retired) ∧ u.cell? ⟨g, 7, none⟩ = some (.slice A n c) ∧ u.cell? ⟨g, 8, none⟩ = some (.int .i64 st.at_) ∧ u.cell? ⟨g, 9, none⟩ = some (.int .i64 st.left) ∧ u.cell? ⟨g, 10, none⟩ = some (.int .i64 st.load) :=
  ⟨Blk.cell h rfl, Blk.cell h rfl, Blk.cell h rfl, Blk.cell h rfl, Blk.cell h rfl, Blk.cell h rfl, Blk.cell h rfl, Blk.cell h rfl, Blk.cell h rfl, Blk.cell h rfl, Blk.cell h rfl⟩
theorem TBox.below {u u' : World} {g : Nat} {q : Option Addr} {d : Drv} {A : Option Addr} {n c : Nat} {st : St} (h : TBox u g q d A n c st) (hb : Below u.heap.size u u') : TBox u' g q d A n c st := Blk.below h hb (Blk.lt h)

theorem ptime_q (base b n : Nat) (l : List Int) (a c t : Int) (w : World) (k : Nat) (h : MapAt (w.drewN k) 77 base b n l) (hn : n ≤ 12) (ht : time ⟨n, l⟩ a c = t) :
    Calls Try.prog 29 #[.pointer (some ⟨b, 0, none⟩), .int .i64 a, .int .i64 c] (w.drewN k) fun e w' => e = .returned (.tuple #[.int .i64 t, .bool (placeB n a && placeB n c)]) ∧ ∃ m, w' = w.drewN m := by
  have := quiet_in (gtime_any base b n l a c (w.drewN k) h hn)
  rw [timeV_time.1, ht] at this
  exact this
theorem pbegin_v (x : Win) (t v : Int) (r : Bool) (w : World) (h : optV (beginT x t) = .tuple #[.int .i64 v, .bool r]) : Calls Try.prog 68 #[winV x, .int .i64 t] w (Gives w (.tuple #[.int .i64 v, .bool r])) := by rw [← h]; exact gbegin_any x t w

/-- what a visit tells -/
def visitV (a : Int) : Option (Int × Int) → Value
  | none => .tuple #[visV vis0, .bool false]
  | some p => .tuple #[visV ⟨⟨0, false⟩, a, p.1, p.2, 0⟩, .bool true]
theorem visit_late {w w' : World} {a : Int} {o : Option (Int × Int)} (h : o = none) (hb : Below w.heap.size w w') : Gives w (visitV a o) (.returned (.tuple #[visV vis0, .bool false])) w' := ⟨by rw [h]; rfl, hb⟩
theorem visit_made {w w' : World} {a b v : Int} {o : Option (Int × Int)} (h : o = some (b, v)) (hb : Below w.heap.size w w') : Gives w (visitV a o) (.returned (.tuple #[visV ⟨⟨0, false⟩, a, b, v, 0⟩, .bool true])) w' := ⟨by rw [h]; rfl, hb⟩

set_option maxRecDepth 100000 in
set_option maxHeartbeats 4000000 in
theorem pvisit_any (base bm mn : Nat) (ml : List Int) (d : Drv) (A : Option Addr) (n c : Nat) (st : St) (g : Nat) (si : Site) (w : World) (ht : TBox w g (some ⟨bm, 0, none⟩) d A n c st) (hm : MapAt w 77 base bm mn ml) (hn : mn ≤ 12) (hmap : IsMap mn ml)
    (lf1 : 0 ≤ st.left) (lf2 : st.left ≤ 2000000) (sv1 : 0 ≤ si.serv) (sv2 : si.serv ≤ 1000000) :
    Calls Try.prog 61 #[.pointer (some ⟨g, 0, none⟩), siteV si] w (Gives w (visitV (st.left + time ⟨mn, ml⟩ st.at_ si.place) (FleetMath.served ⟨mn, ml⟩ st.at_ st.left si d.win.to))) := by
  obtain ⟨hl0, hl1⟩ := time_bounds hmap st.at_ si.place
  obtain ⟨t, htv⟩ : ∃ t, time ⟨mn, ml⟩ st.at_ si.place = t := ⟨_, rfl⟩
  rw [htv] at hl0 hl1 ⊢
  have HT := Lib.hid htv
  obtain ⟨o, ho⟩ : ∃ o, FleetMath.served ⟨mn, ml⟩ st.at_ st.left si d.win.to = o := ⟨_, rfl⟩
  rw [ho]
  have ho' : o = match beginT si.win (st.left + t) with | none => none | some b => if d.win.to < b + si.serv then none else some (b, b + si.serv) := by
    rw [← ho, ← htv]; rfl
  have HO := Lib.hid ho'
  have HM := Lib.hid hm
  have HTB := Lib.hid ht
  clear hm hmap ht htv ho ho'
  go_enter Try.func61, Try.ntmps61
  go_wp2
  obtain ⟨u0, hu0⟩ : ∃ u, (w.alloc (.cells #[.int .i64 si.place, .int .i64 si.win.fr, .int .i64 si.win.to, .int .i64 si.serv] 29)).alloc (.cells #[.int .i64 0, .bool false, .int .i64 0, .int .i64 0, .int .i64 0, .int .i64 0] 71) = u := ⟨_, rfl⟩
  have b1 : Below w.heap.size w (w.alloc (.cells #[.int .i64 si.place, .int .i64 si.win.fr, .int .i64 si.win.to, .int .i64 si.serv] 29)) := (Below.refl _ _).alloc (Nat.le_refl _) _
  have HB0 : Hid (Below w.heap.size w u0) := by rw [← hu0]; exact b1.alloc b1.size _
  have HX0 : Hid (SBox u0 w.heap.size si) := by
    rw [← hu0]
    exact SBox.below (s := si) (Blk.new w _ _) ((Below.refl _ _).alloc (Nat.le_refl _) _)
  have HV0 : Hid (VBox u0 (w.heap.size + 1) vis0) := by
    have f := Blk.new (w.alloc (.cells #[.int .i64 si.place, .int .i64 si.win.fr, .int .i64 si.win.to, .int .i64 si.serv] 29)) 71 [.int .i64 0, .bool false, .int .i64 0, .int .i64 0, .int .i64 0, .int .i64 0]
    rw [World.size_alloc] at f
    rw [← hu0]
    exact f
  have HT0 : Hid (TBox u0 g (some ⟨bm, 0, none⟩) d A n c st) := HTB.out.below HB0.out
  have HM0 : Hid (∀ k, MapAt (u0.drewN k) 77 base bm mn ml) := fun k => (HM.out.keep HB0.out (Nat.le_refl _)).drewN k
  rw [hu0]
  clear b1 hu0 HTB HM
  obtain ⟨t0, _, _, _, _, t5, _, _, t8, t9, _⟩ := HT0.out.cells
  obtain ⟨c0, c1, c2, c3⟩ := HX0.out.cells
  go_quiet ((go_at_call 29; with_reducible exact ptime_q base bm mn ml st.at_ si.place t _ _ (HM0.out _) hn HT.out))
  obtain ⟨bq, hbq⟩ : ∃ b, (placeB mn st.at_ && placeB mn si.place) = b := ⟨_, rfl⟩
  rw [hbq]
  obtain ⟨w1, hw1⟩ : ∃ u, u0.drewN nq = u := ⟨_, rfl⟩
  have HB1 : Hid (Below w.heap.size w w1) := by rw [← hw1]; exact below_drewN HB0.out _
  have HX1 : Hid (SBox w1 w.heap.size si) := by rw [← hw1]; exact HX0.out
  have HV1 : Hid (VBox w1 (w.heap.size + 1) vis0) := by rw [← hw1]; exact HV0.out
  have HT1 : Hid (TBox w1 g (some ⟨bm, 0, none⟩) d A n c st) := by rw [← hw1]; exact HT0.out
  rw [hw1]
  clear hbq hw1 HB0 HX0 HV0 HT0 HM0 HT t0 t5 t8 t9 c0 c1 c2 c3
  obtain ⟨t0, _, _, _, _, t5, _, _, t8, t9, _⟩ := HT1.out.cells
  obtain ⟨c0, c1, c2, c3⟩ := HX1.out.cells
  cases hq : beginT si.win (st.left + t) with
  | none =>
    have HQ : Hid (optV (beginT si.win (st.left + t)) = .tuple #[.int .i64 0, .bool false]) := by rw [hq]; rfl
    have HN : Hid (o = none) := by have := HO.out; rw [hq] at this; exact this
    clear hq HO
    go_wp2_with fail
    refine (pbegin_v si.win (st.left + t) 0 false _ HQ.out).mono ?_
    rintro e w2 ⟨rfl, hb2⟩
    have HB2 := Lib.hid (putV_below (HB1.out.trans (hb2.mono HB1.out.size)) (Nat.le_succ w.heap.size) vis0)
    have HV2 := Lib.hid (HV1.out.below hb2)
    have HX2 := Lib.hid (HX1.out.below hb2)
    clear hb2 t0 t5 t8 t9 c0 c1 c2 c3 HB1 HV1 HX1 HT1
    obtain ⟨c0, c1, c2, c3⟩ := HX2.out.cells
    have hcs := cell_apart (w.heap.size + 1)
    have hfs := frozen_set
    have hff := Blk.free HV2.out
    obtain ⟨x0, x1, x2, x3, x4, x5⟩ := HV2.out.cells
    have HR := Lib.hid (putV_box HV2.out vis0).cells
    go_wp2_with fail
    refine bodyPost_ret (v := .tuple #[visV vis0, .bool false]) ?_ rfl (visit_late HN.out HB2.out)
    obtain ⟨r0, r1, r2, r3, r4, r5⟩ := HR.out
    simp [results, Try.results61, go_sem, r0, r1, r2, r3, r4, r5]
  | some v =>
    have HQ : Hid (optV (beginT si.win (st.left + t)) = .tuple #[.int .i64 v, .bool true]) := by rw [hq]; rfl
    obtain ⟨q1, q2, q3, q4, q5⟩ := beginT_in hq
    have q6 := right_iff.1 (has_iff.1 q1).1
    have q7 : v ≤ 1000000 := by omega
    have q8 : 0 ≤ v := by omega
    have ho2 := HO.out
    rw [hq] at ho2
    simp only at ho2
    have HO2 := Lib.hid ho2
    clear hq q1 q2 q3 q4 q5 q6 HO ho2
    go_wp2_with fail
    refine (pbegin_v si.win (st.left + t) v true _ HQ.out).mono ?_
    rintro e w2 ⟨rfl, hb2⟩
    have HB2 := Lib.hid (HB1.out.trans (hb2.mono HB1.out.size))
    have HV2 := Lib.hid (HV1.out.below hb2)
    have HX2 := Lib.hid (HX1.out.below hb2)
    have HT2 := Lib.hid (HT1.out.below hb2)
    clear hb2 t0 t5 t8 t9 c0 c1 c2 c3 HB1 HV1 HX1 HT1
    obtain ⟨t0, _, _, _, _, t5, _, _, t8, t9, _⟩ := HT2.out.cells
    obtain ⟨c0, c1, c2, c3⟩ := HX2.out.cells
    have hcs := cell_apart (w.heap.size + 1)
    have hfs := frozen_set
    have hff := Blk.free HV2.out
    obtain ⟨x0, x1, x2, x3, x4, x5⟩ := HV2.out.cells
    by_cases hlt : d.win.to < v + si.serv
    · have HN : Hid (o = none) := by have := HO2.out; rw [if_pos hlt] at this; exact this
      have HR := Lib.hid (putV_box HV2.out vis0).cells
      have HB3 := Lib.hid (putV_below HB2.out (Nat.le_succ w.heap.size) vis0)
      clear HO2
      go_wp2_with fail
      refine bodyPost_ret (v := .tuple #[visV vis0, .bool false]) ?_ rfl (visit_late HN.out HB3.out)
      obtain ⟨r0, r1, r2, r3, r4, r5⟩ := HR.out
      simp [results, Try.results61, go_sem, r0, r1, r2, r3, r4, r5]
    · have HN : Hid (o = some (v, v + si.serv)) := by have := HO2.out; rw [if_neg hlt] at this; exact this
      have HR := Lib.hid (putV_box HV2.out ⟨⟨0, false⟩, st.left + t, v, v + si.serv, 0⟩).cells
      have HB3 := Lib.hid (putV_below HB2.out (Nat.le_succ w.heap.size) ⟨⟨0, false⟩, st.left + t, v, v + si.serv, 0⟩)
      clear HO2
      go_wp2_with fail
      refine bodyPost_ret (v := .tuple #[visV ⟨⟨0, false⟩, st.left + t, v, v + si.serv, 0⟩, .bool true]) ?_ rfl (visit_made HN.out HB3.out)
      obtain ⟨r0, r1, r2, r3, r4, r5⟩ := HR.out
      simp [results, Try.results61, go_sem, r0, r1, r2, r3, r4, r5]

#print axioms pvisit_any

end Go.Proofs.Ytobcmlcmbnldlaa.Route
